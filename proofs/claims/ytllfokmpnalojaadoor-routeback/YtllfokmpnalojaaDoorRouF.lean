/- route: what slices.Backward and Pack answer: a range over a function. -/
import Derived.Test.YtllfokmpnalojaaDoorRouB
import Derived.Test.YtllfokmpnalojaaDoorRouN
import Derived.RangeFuncNested
import Derived.RangeFuncBound
import Derived.RangeFuncCalls
import Derived.RangeFuncLeaves
import Derived.RangeFuncBox
import Derived.Shelf.Abstract
import Derived.Shelf.RegionOpen
import Derived.WalkKit
import Derived.OwnWalkIn
import Derived.TacticsInMore
import Derived.LoopNIn
import Derived.LoopIn
import Derived.Laws.BitsAllLaws
import Derived.Laws.BitsLemmas
namespace Go.Proofs.YtllfokmpnalojaaDoor.route
open Go Go.RowKit Go.Shelf
attribute [local go_sem] Oper.semAt_some
set_option linter.unusedVariables false
set_option linter.unusedSimpArgs false
set_option maxRecDepth 100000

/-- what has come when the numbers from k on have come, the last one first -/
def bwd (zs : List (Fin 16)) (k : Nat) : List (Nat × Fin 16) := ((List.range (zs.length - k)).map fun j => (zs.length - 1 - j, zs[zs.length - 1 - j]?.getD 0))
theorem bwd_len (zs : List (Fin 16)) (k : Nat) : (bwd zs k).length = zs.length - k := by simp [bwd]
theorem bwd_next {zs : List (Fin 16)} {k : Nat} (h : k < zs.length) : bwd zs k = bwd zs (k + 1) ++ [(k, zs[k]?.getD 0)] := by
  unfold bwd
  rw [show zs.length - k = (zs.length - (k + 1)) + 1 by omega, List.range_succ, List.map_append]
  simp only [List.map_cons, List.map_nil]
  rw [show zs.length - 1 - (zs.length - (k + 1)) = k by omega]
theorem bwd_end (zs : List (Fin 16)) : bwd zs zs.length = [] := by simp [bwd]

/-- what lay below n0 lies as it lay, and so does the box Bs -/
structure Kb (n₀ Bs : Nat) (W U : World) : Prop where
  below : Below n₀ W U
  box : U.heap[Bs]? = W.heap[Bs]?
theorem Kb.refl (n₀ Bs : Nat) (W : World) : Kb n₀ Bs W W := ⟨Below.refl _ _, rfl⟩
theorem Kb.trans {n₀ Bs : Nat} {A B C : World} (h : Kb n₀ Bs A B) (k : Kb n₀ Bs B C) : Kb n₀ Bs A C := ⟨h.below.trans k.below, k.box.trans h.box⟩
theorem Kb.put {n₀ Bs : Nat} {w : World} (hn : n₀ ≤ w.heap.size) (hb : Bs < w.heap.size) (W : World) (l : Nat) (o o' : Obj) (hl : w.heap.size ≤ l) (h : W.heap[l]? = some o) (h1 : o.isCells = false) (h2 : o.isWalk = false) : Kb n₀ Bs W (W.putObj l o') :=
  ⟨belowK_b hn W l o o' hl h h1 h2, World.putObj_heap_other (by omega)⟩
theorem box_cell {W : World} {B : Nat} {v : Value} {t : TypeId} (h : W.heap[B]? = some (.cells #[v] t)) : W.cell? ⟨B, 0, none⟩ = some v := by
  rw [cell_of_row _ _ _ _ _ (0, 0) h]
  rfl
set_option maxHeartbeats 2000000 in
/-- the closure of slices.Backward, for every loop body that keeps what lay below n0 -/
theorem back_in (F : Fence) (n : Nat) (h8 : F.fn 41) (hro : F.round = none) (hn : 1 ≤ n) (l Bs n₀ b off len cap : Nat) (zs : List (Fin 16)) (hz : zs.length = len) (hreach : len ≤ 1000) (hb : b < n₀) (hcap : len ≤ cap) (hcm : cap ≤ 9223372036854775807) (J Jx : List (Nat × Fin 16) → World → Prop)
    (hY : ∀ pre x W, J pre W → pre.length < len → YieldAt F (n - 1) Tryd.prog l #[.int .i64 (x.1 : Int), .int .i64 (x.2.val : Int)] W fun e W' =>
      (e = .returned (.bool true) ∧ J (pre ++ [x]) W' ∧ Kb n₀ Bs W W') ∨ (e = .returned (.bool false) ∧ Jx (pre ++ [x]) W'))
    (W : World) (hBs : W.heap[Bs]? = some (.cells #[.slice (some ⟨b, off, none⟩) len cap] 22)) (hc : ∀ j, j < len → W.cell? ⟨b, off + j, none⟩ = some (.int .i64 ((zs[j]?.getD 0).val : Int))) (h0 : J [] W) :
    CallsIn F n Tryd.prog 41 #[.func (.yield l) #[] #[], .pointer (some ⟨Bs, 0, none⟩)] W fun e W' => (∃ v, e = .returned v) ∧
      ((∃ ys, ys = bwd zs 0 ∧ J ys W') ∨ (∃ pre, (∃ k, k ≤ len ∧ pre = bwd zs k) ∧ Jx pre W')) := by
  refine callsIn_of_wp Tryd.func41 rfl h8 ?_ hro
  simp only [Tryd.ntmps41, List.size_toArray, List.length_cons, List.length_nil, Nat.reduceAdd, Nat.reduceSub, Array.replicate_succ, Array.replicate_zero, List.push_toArray, List.append_toArray, List.nil_append, List.cons_append]
  have hBc := box_cell hBs
  gi_wp2
  clear hBc
  gi_loopw [3] (fun i wr => ∃ k : Nat, k ≤ len ∧ i = .int .i64 ((k : Int) - 1) ∧ J (bwd zs k) wr ∧ Kb n₀ Bs W wr)
    (fun i _ => (intOf i + 1).toNat)
  case atStart => exact ⟨len, Nat.le_refl _, rfl, by rw [← hz, bwd_end]; exact h0, Kb.refl _ _ _⟩
  case round =>
    obtain ⟨k, hk, rfl, hJs, hnx⟩ := hrel
    have hBs' : wr.cell? ⟨Bs, 0, none⟩ = some (.slice (some ⟨b, off, none⟩) len cap) := box_cell (hnx.box.trans hBs)
    cases k with
    | zero =>
      have e0 : ((0 : Nat) : Int) - 1 = -1 := by decide
      rw [e0]
      clear hc hY
      gi_wp2
      go_end0
      exact ⟨⟨_, rfl⟩, .inl ⟨_, rfl, hJs⟩⟩
    | succ k =>
      have e0 : ((k + 1 : Nat) : Int) - 1 = (k : Int) := by omega
      rw [e0]
      have hkl : k < len := by omega
      obtain ⟨fn, tmps, assign, body, hy, hR⟩ := hY _ (k, zs[k]?.getD 0) wr hJs (by rw [bwd_len]; omega)
      dsimp only at hy
      have hcx : wr.cell? ⟨b, off + k, none⟩ = some (.int .i64 ((zs[k]?.getD 0).val : Int)) := (hnx.below.cell (p := ⟨b, off + k, none⟩) hb).trans (hc k hkl)
      have hbn : bwd zs k = bwd zs (k + 1) ++ [(k, zs[k]?.getD 0)] := bwd_next (by omega)
      clear hc hY
      generalize zs[k]?.getD 0 = x at hy hR hcx hbn
      gi_wp2
      refine hR.mono ?_
      rintro e W3 (⟨rfl, hJ3, hk3⟩ | ⟨rfl, hJx3⟩)
      · gi_wp2
        go_roundw
        case rel => exact ⟨k, by omega, by first | rfl | (congr 1; omega), by rw [hbn]; exact hJ3, hnx.trans hk3⟩
        case measure => simp [intOf]
      · gi_wp2
        refine bodyPost_ret (results_none rfl _ _ _) rfl ?_
        exact ⟨⟨_, rfl⟩, .inr ⟨_, ⟨k, by omega, hbn.symm⟩, hJx3⟩⟩
theorem wide_iff {n : Nat} {f : FuncId} {args : Array Value} {w : World} {Q : Ending → World → Prop} : CallsIn Fence.wide n Tryd.prog f args w Q ↔ Calls Tryd.prog f args w Q := callsIn_wide
set_option maxHeartbeats 1000000 in
/-- slices.Backward: the slice is boxed, the function holds the box -/
theorem backward_in (F : Fence) (n : Nat) (h6 : F.fn 27) (hro : F.round = none) (a : Option Addr) (len cap : Nat) (w : World) :
    CallsIn F n Tryd.prog 27 #[.slice a len cap] w fun e w' => e = .returned (.func (.func 41) #[] #[.pointer (some ⟨w.heap.size, 0, none⟩)]) ∧ w' = w.alloc (.cells #[.slice a len cap] 22) := by
  refine callsIn_of_wp Tryd.func27 rfl h6 ?_ hro
  simp only [Tryd.ntmps27, List.size_toArray, List.length_cons, List.length_nil, Nat.reduceAdd, Nat.reduceSub, Array.replicate_succ, Array.replicate_zero, List.push_toArray, List.append_toArray, List.nil_append, List.cons_append]
  gi_wp2
  go_ret
  exact ⟨rfl, rfl⟩
/-- a path as numbers below 16 -/
def fins (P : List Int) : List (Fin 16) := P.map fun p => Fin.ofNat 16 p.toNat
theorem fins_len (P : List Int) : (fins P).length = P.length := by simp [fins]
theorem fins_at {P : List Int} (h : ∀ p ∈ P, 1 ≤ p ∧ p ≤ 15) {j : Nat} (hj : j < P.length) : (((fins P)[j]?.getD 0).val : Int) = P[j] := by
  have hb := h P[j] (List.getElem_mem hj)
  have : (fins P)[j]? = some (Fin.ofNat 16 P[j].toNat) := by simp [fins, hj]
  rw [this]
  simp only [Option.getD_some, Fin.val_ofNat]
  omega
/-- the number of what has come -/
def pk (l : List (Nat × Fin 16)) : Nat := l.foldl (fun n x => n * 16 + x.2.val) 0
theorem pk_snoc (l : List (Nat × Fin 16)) (x : Nat × Fin 16) : pk (l ++ [x]) = pk l * 16 + x.2.val := by simp [pk]
theorem pk_lt (l : List (Nat × Fin 16)) : pk l < 16 ^ l.length := by
  have key : ∀ (r : List (Nat × Fin 16)), pk r.reverse < 16 ^ r.length := by
    intro r
    induction r with
    | nil => simp [pk]
    | cons x r ih =>
      rw [List.reverse_cons, pk_snoc, List.length_cons, Nat.pow_succ]
      have := x.2.isLt
      omega
  have := key l.reverse
  simpa using this
theorem pk_bwd {P : List Int} (h : ∀ p ∈ P, 1 ≤ p ∧ p ≤ 15) : ∀ (d k : Nat), k + d = P.length → ((pk (bwd (fins P) k) : Nat) : Int) = num (P.drop k)
  | 0, k, hk => by
    rw [List.drop_eq_nil_of_le (by omega), show k = (fins P).length by rw [fins_len]; omega, bwd_end]
    rfl
  | d + 1, k, hk => by
    have hkl : k < P.length := by omega
    rw [bwd_next (by rw [fins_len]; exact hkl), pk_snoc, List.drop_eq_getElem_cons hkl]
    have ih := pk_bwd h d (k + 1) (by omega)
    have hf := fins_at h hkl
    show ((pk (bwd (fins P) (k + 1)) * 16 + ((fins P)[k]?.getD 0).val : Nat) : Int) = P[k] + 16 * num _
    rw [← ih, ← hf]
    omega
theorem i64_or16 (m p : Nat) (hp : p < 16) (hm : m < 1048576) : bits .or .i64 ((m * 16 : Nat) : Int) (p : Int) = ((m * 16 + p : Nat) : Int) := by
  have h1 : (BitVec.ofInt 64 ((m * 16 : Nat) : Int)).toNat = m * 16 := by rw [BitVec.toNat_ofInt]; omega
  have h2 : (BitVec.ofInt 64 (p : Int)).toNat = p := by rw [BitVec.toNat_ofInt]; omega
  have key : (BitVec.ofInt 64 ((m * 16 : Nat) : Int) ||| BitVec.ofInt 64 (p : Int)).toNat = m * 16 + p := by
    rw [BitVec.toNat_or, h1, h2]
    have := Nat.two_pow_add_eq_or_of_lt (i := 4) (b := p) (by omega) m
    rw [show 2 ^ 4 * m = m * 16 by omega] at this
    exact this.symm
  show IntKind.i64.wrap ((BitVec.ofInt 64 ((m * 16 : Nat) : Int) ||| BitVec.ofInt 64 (p : Int)).toNat : Nat) = _
  rw [key, IntKind.wrap_i64]
  omega
/-- what Pack answers -/
def paN (P : List Int) : Int := if chk P = 0 then num P else 0
set_option maxHeartbeats 2000000 in
theorem pack_no (v : Value) (P : List Int) (w : World) (hv : Ris w v P) (hc : chk P ≠ 0) : Calls Tryd.prog 12 #[v] w fun e w' => e = .returned (.tuple #[.int .i64 0, .int .i64 (chk P)]) ∧ Below w.heap.size w w' := by
  have HC : Hid (Calls Tryd.prog 19 #[v] w fun e w' => e = .returned (.int .i64 (chk P)) ∧ w = w') := check_any v P w hv
  obtain ⟨z, hz⟩ : ∃ z, chk P = z := ⟨_, rfl⟩
  rw [hz] at HC hc ⊢
  have hne : (z != 0) = true := by simpa using hc
  clear hv hz hc
  go_enter Tryd.func12, Tryd.ntmps12
  go_wp2_with fail
  refine (HC.out).mono ?_
  rintro e u ⟨rfl, rfl⟩
  clear HC
  go_wp2
  go_ret2
  exact ⟨rfl, Below.refl _ _⟩
theorem back_stops (F : Fence) (n : Nat) (h8 : F.fn 41) (hro : F.round = none) (hn : 1 ≤ n) (Bs n₀ b off cap : Nat) (P : List Int) (hP : ∀ p ∈ P, 1 ≤ p ∧ p ≤ 15) (hl : P.length ≤ 1000) (hcap : P.length ≤ cap) (hcm : cap ≤ 9223372036854775807) (w : World) (hn₀ : n₀ ≤ w.heap.size) (hb : b < n₀)
    (hc : w.heap[Bs]? = some (.cells #[.slice (some ⟨b, off, none⟩) P.length cap] 22)) (hI : ∀ j x, P[j]? = some x → w.cell? ⟨b, off + j, none⟩ = some (.int .i64 x)) :
    SeqStopsK F n Tryd.prog 41 #[.pointer (some ⟨Bs, 0, none⟩)] (fun x : Nat × Fin 16 => #[Value.int .i64 (x.1 : Int), Value.int .i64 (x.2.val : Int)]) (Kb n₀ Bs) (fun ys => ys = bwd (fins P) 0)
      (fun pre => ∃ k, k ≤ P.length ∧ pre = bwd (fins P) k) P.length w := fun l J Jx W hW _ _ hY h0 => by
  have hc' := (hW.block Bs (Array.getElem?_eq_some_iff.1 hc).1).trans hc
  exact back_in F n h8 hro hn l Bs n₀ b off P.length cap (fins P) (fins_len P) hl hb hcap hcm J Jx hY W hc' (fun j hj => by
    rw [fins_at hP hj]
    exact (hW.cell (p := ⟨b, off + j, none⟩) (Nat.lt_of_lt_of_le hb hn₀)).trans (hI j _ (List.getElem?_eq_getElem hj))) h0
set_option maxHeartbeats 4000000 in
theorem pack_yes (v : Value) (P : List Int) (w : World) (hv : Ris w v P) (hc : chk P = 0) : Calls Tryd.prog 12 #[v] w fun e w' => e = .returned (.tuple #[.int .i64 (num P), .int .i64 0]) ∧ Below w.heap.size w w' := by
  have HC : Hid (Calls Tryd.prog 19 #[v] w fun e w' => e = .returned (.int .i64 0) ∧ w = w') := by have := check_any v P w hv; rw [hc] at this; exact this
  obtain ⟨hl1, hl6, hP⟩ := chk_ok hc
  obtain ⟨a, c, rfl, hlc, hcm, h4⟩ := hv
  obtain ⟨b, off, rfl, hb, hcell⟩ := h4 (by omega)
  have hnum := pk_bwd hP P.length 0 (by omega)
  rw [List.drop_zero] at hnum
  obtain ⟨len, hlen⟩ : ∃ len, P.length = len := ⟨_, rfl⟩
  have HLn : Hid (P.length = len) := hlen
  rw [hlen] at HC ⊢
  have HP : Hid (∀ p ∈ P, 1 ≤ p ∧ p ≤ 15) := hP
  have HX : Hid (∀ j x, P[j]? = some x → w.cell? ⟨b, off + j, none⟩ = some (.int .i64 x)) := hcell
  have HNm : Hid (((pk (bwd (fins P) 0) : Nat) : Int) = num P) := hnum
  have HB : Hid (b < w.heap.size ∧ len ≤ 6 ∧ len ≤ c ∧ c ≤ 9223372036854775807) := ⟨hb, by omega, by omega, by unfold maxLen at hcm; omega⟩
  clear hP hcell hnum hb hlen hlc hcm hl1 hl6 hc h4
  refine (wide_iff (n := 7)).1 ?_
  refine callsIn_of_wp_marks Tryd.func12 rfl trivial ?_ rfl
  simp only [Tryd.ntmps12, List.size_toArray, List.length_cons, List.length_nil, Nat.reduceAdd, Nat.reduceSub, Array.replicate_succ, Array.replicate_zero, List.push_toArray, List.append_toArray, List.nil_append, List.cons_append]
  gi_wp2
  refine ⟨trivial, ?_⟩
  refine ((wide_iff).2 HC.out).mono ?_
  rintro e w' ⟨rfl, rfl⟩
  clear HC
  gi_wp2
  refine ⟨trivial, ?_⟩
  refine (backward_in Fence.wide _ trivial rfl _ _ _ _).mono ?_
  rintro e w' ⟨rfl, rfl⟩
  gi_wp2
  have bS := Boxed.new w 3 (.int .i64 0)
  obtain ⟨W1, hW1⟩ : ∃ W1, w.alloc (.cells #[.int .i64 0] 3) = W1 := ⟨_, rfl⟩
  have hs1 : W1.heap.size = w.heap.size + 1 := by rw [← hW1]; simp
  have hB1 : Below w.heap.size w W1 := by rw [← hW1]; exact balloc _ _
  rw [hW1] at bS ⊢
  obtain ⟨W2, hW2⟩ : ∃ W2, W1.alloc (.cells #[.slice (some ⟨b, off, none⟩) len c] 22) = W2 := ⟨_, rfl⟩
  have hs2 : W2.heap.size = w.heap.size + 2 := by rw [← hW2]; simp [hs1]
  have hB0 : Below w.heap.size w W2 := by rw [← hW2]; exact bsq hB1 (balloc _ _)
  have hbx : W2.heap[w.heap.size + 1]? = some (.cells #[.slice (some ⟨b, off, none⟩) len c] 22) := by rw [← hW2, ← hs1]; exact World.alloc_heap_new _ _
  have bS2 : Boxed W2 w.heap.size 3 (.int .i64 0) := by rw [← hW2]; exact bS.alloc _
  rw [hW2]
  clear hW1 hW2 bS hB1 hs1
  have hst := back_stops Fence.wide 6 trivial rfl (by omega) (w.heap.size + 1) w.heap.size b off c P HP.out (by rw [HLn.out]; have := HB.out; omega) (by rw [HLn.out]; exact HB.out.2.2.1) HB.out.2.2.2 W2 (by omega) HB.out.1 (by rw [HLn.out]; exact hbx) (fun j x hx => (hB0.cell (p := ⟨b, off + j, none⟩) HB.out.1).trans (HX.out j x hx))
  refine wpIn_rangeFunc_ownG rfl (by omega) (gf := 41) (lb := #[.pointer (some ⟨w.heap.size + 1, 0, none⟩)]) rfl trivial (enters_of Tryd.func41 (by kernel_rfl) rfl)
    hst Kb.trans (Kb.put (by omega) (by omega)) (Below.refl _ _) (fun _ => rfl)
    (fun pre W => (W.cell? ⟨w.heap.size, 0, none⟩ = some (.int .i64 ((pk pre : Nat) : Int)) ∧ W.frozen? ⟨w.heap.size, 0, none⟩ = false) ∧ Below w.heap.size w W)
    (fun _ _ _ => False)
    (OwnFrom.and (Own.from (fun s A B row hs hg hr => ⟨cell_kept hs.1 hg hr, (frozen_kept hs.1 hg hr).trans hs.2⟩) _) (ownFrom_below (Nat.le_refl _) (by omega)))
    (fun _ _ _ _ _ hs _ _ => hs)
    ⟨⟨bS2.cell, bS2.frozen⟩, hB0⟩
    (fun x => { tmps := #[.slice (some ⟨b, off, none⟩) len c, undef, .int .i64 0, .int .i64 0, .int .i64 0, .pointer (some ⟨w.heap.size, 0, none⟩), undef, .int .i64 (x.2.val : Int), .slice (some ⟨b, off, none⟩) len c, .int .i64 0, .int .i64 0, .bool false, undef, .slice (some ⟨b, off, none⟩) len c, .func (.func 41) #[] #[.pointer (some ⟨w.heap.size + 1, 0, none⟩)], .int .i64 (x.1 : Int), .int .i64 (x.2.val : Int), undef, undef, undef, undef, undef], defers := [] }) ?assign ?body ?done ?stop
  case assign =>
    intro l x W K hK
    gi_wp2
    exact hK
  case body =>
    rintro l pre x W ⟨⟨hc, hf⟩, hB⟩ hlen
    have hlt : pk pre < 1048576 := by
      have h1 := pk_lt pre
      have h2 : pre.length ≤ 5 := by rw [HLn.out] at hlen; have := HB.out; omega
      have h3 : 16 ^ pre.length ≤ 16 ^ 5 := Nat.pow_le_pow_right (by omega) h2
      have h4 : (16 : Nat) ^ 5 = 1048576 := by decide
      omega
    have hsn := pk_snoc pre x
    have hx := x.2.isLt
    have hor := i64_or16 (pk pre) x.2.val hx hlt
    rw [← hsn] at hor
    obtain ⟨m, hm⟩ : ∃ m, pk pre = m := ⟨_, rfl⟩
    obtain ⟨M, hM⟩ : ∃ M, m * 16 = M := ⟨_, rfl⟩
    rw [hm, hM] at hor
    rw [hm] at hc hlt
    have hM2 : (m : Int) * 16 = (M : Int) := by omega
    have hMb : M ≤ 16777216 := by omega
    clear hsn hm hM hst
    obtain ⟨R, hR⟩ : ∃ R, pk (pre ++ [x]) = R := ⟨_, rfl⟩
    rw [hR] at hor
    have HR : Hid (pk (pre ++ [x]) = R) := hR
    clear hR
    gi_wp2
    refine ⟨(KeepsOthers.setCell _ _ _).from _, ⟨(Below.refl w.heap.size W).setCell (p := ⟨w.heap.size, 0, none⟩) (Nat.le_refl _) _, Below.heap_setCell _ _ _ _ (by simp)⟩, ⟨?_, by rw [World.frozen?_setCell]; exact hf⟩, hB.setCell (p := ⟨w.heap.size, 0, none⟩) (Nat.le_refl _) _⟩
    rw [HR.out]
    exact World.cell?_setCell_same' _ _ _ (by rw [hc]; rfl)
  case done =>
    rintro D ys W hD rfl ⟨⟨hc, _⟩, hB⟩ hK
    gi_wp2
    refine ⟨by simp, .inl ⟨_, _, rfl, run_takeDeferred hK, ?_⟩⟩
    refine ⟨_, results_tmp2 rfl _ _ _, ?_, hB.trans (belowK_b (w := w) (Nat.le_refl _) W D _ _ (by omega) hK rfl rfl)⟩
    rw [← HNm.out]
    rfl
  case stop =>
    rintro D c pre W _ _ h _
    exact h.elim
theorem pack_any (v : Value) (P : List Int) (w : World) (hv : Ris w v P) : Calls Tryd.prog 12 #[v] w fun e w' => e = .returned (.tuple #[.int .i64 (paN P), .int .i64 (chk P)]) ∧ Below w.heap.size w w' := by
  unfold paN
  by_cases hc : chk P = 0
  · rw [if_pos hc, hc]
    exact pack_yes v P w hv hc
  · rw [if_neg hc]
    exact pack_no v P w hv hc
end Go.Proofs.YtllfokmpnalojaaDoor.route
