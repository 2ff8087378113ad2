/- plugref: what Taken answers. -/
import Derived.Test.YtifebinpjpalhaaAreB
import Derived.Test.YtifebinpjpalhaaAreN
namespace Go.Proofs.Ytifebinpjpalhaa.arena
open Go.RowKit
set_option linter.unusedVariables false
set_option linter.unusedSimpArgs false
set_option maxRecDepth 100000

theorem infoB : (Try.prog.info? 4).map (fun i => (i.zero, i.size, i.bytes)) = some (some (.bool false), 1, 1) := by kernel_rfl
def bcells (l : List Bool) : List Value := l.map .bool
/-- a row of n bools of the call's own, in block B -/
def Bw (w : World) (B n : Nat) (l : List Bool) : Prop := w.ownsRow B 4 1 (.slice (some ⟨B, 0, none⟩) n n) n (bcells l)
theorem Bw.len {w : World} {B n : Nat} {l : List Bool} (h : Bw w B n l) : l.length = n := by have := h.1; simpa [bcells] using this
theorem Bw.free {w : World} {B n : Nat} {l : List Bool} (h : Bw w B n l) (k : Nat) : w.frozen? ⟨B, k, none⟩ = false := World.ownsRow.frozenAt h k
theorem Bw.cell {w : World} {B n : Nat} {l : List Bool} (h : Bw w B n l) {k : Nat} {x : Bool} (hk : l[k]? = some x) : w.cell? ⟨B, k, none⟩ = some (.bool x) := by
  have hl := h.len
  have hlt := (List.getElem?_eq_some_iff.1 hk).1
  rw [World.ownsRow.cellAt h k (by omega)]
  simp [bcells, hk]
theorem Bw.set {w : World} {B n : Nat} {l : List Bool} (h : Bw w B n l) (k : Nat) (v : Bool) : Bw (w.setCell ⟨B, k, none⟩ (.bool v)) B n (l.set k v) := by
  have := (World.ownsRow.stored h k (.bool v)).1
  unfold Bw
  rw [show bcells (l.set k v) = (bcells l).set k (.bool v) by simp [bcells, List.map_set]]
  exact this
theorem Bw.below {w u : World} {B n : Nat} {l : List Bool} (h : Bw w B n l) (hb : Below w.heap.size w u) : Bw u B n l := own_below h hb
theorem Bw.lt {w : World} {B n : Nat} {l : List Bool} (h : Bw w B n l) : B < w.heap.size := (World.ownsRow.lt h B rfl).2
theorem Bw.made {w : World} {B n : Nat} (h : w.ownsRow B 4 1 (.slice (some ⟨B, 0, none⟩) n n) n (madeCells (Value.bool false).cells (n * 1)).toList) : Bw w B n (List.replicate n false) := by
  have e : (madeCells (Value.bool false).cells (n * 1)).toList = bcells (List.replicate n false) := by
    rw [Nat.mul_one]
    have := toList_madeCells_one (Value.bool false) n
    unfold bcells
    rw [List.map_replicate]
    exact this
  rw [e] at h
  exact h
theorem none_taken (n : Nat) (L : List Sp) : List.replicate n false = (List.range n).map (tkB (L.take 0)) := by
  apply List.ext_getElem
  · simp
  · intro u h1 h2
    simp [tkB]
set_option maxHeartbeats 4000000 in
theorem refTaken_any (N : Nat) (v : Value) (L : List Sp) (w : World) (hv : Rss w v L) (hc : chk ⟨(N : Int), L⟩ = 0) :
    Calls Try.prog 12 #[arV (N : Int) v] w fun e w' => ∃ B, w.heap.size ≤ B ∧ e = .returned (.slice (some ⟨B, 0, none⟩) N N) ∧ Bw w' B N (tkL N L) ∧ Below w.heap.size w w' := by
  obtain ⟨hz1, hz2, hl64, hrow⟩ := chk_ok hc
  simp only at hz1 hz2 hl64 hrow
  obtain ⟨a, c, rfl, hlc, hcm⟩ := hv.form
  obtain ⟨n, hn⟩ : ∃ n, L.length = n := ⟨_, rfl⟩
  have HN : Hid (L.length = n) := hn
  rw [hn] at hv hlc hl64 ⊢
  obtain ⟨w1, hw1, hX1, hb1⟩ := named w (arO (N : Int) (.slice a n c))
  obtain ⟨⟨hz, x0, x1⟩, _⟩ := boxC hX1
  have HR : Hid (Rss w1 (.slice a n c) L) := hv.below hb1
  have HX : Hid (w1.heap[w.heap.size]? = some (arO (N : Int) (.slice a n c))) := hX1
  have HB1 : Hid (Below w.heap.size w w1) := hb1
  have HW : Hid (rowB (N : Int) 0 L = true) := hrow
  obtain ⟨i0, hi, hz0, hzs1, hzs2⟩ := info_parts infoB
  unfold maxLen at hcm
  clear hv hn hX1 hb1 hrow hc
  go_enter Try.func12, Try.ntmps12
  go_wp2_with
    (at_make
     refine wpList_make_full _ rfl _ _ 31 rfl w1.heap.size 4 i0 (.bool false) 1 Try.underlying31 hi hz0 hzs1 _ _ _ _ N rfl rfl (by omega) (by omega) (by rw [hzs2]; omega) (by unfold maxLen; omega) (Nat.le_refl _) ?_
     intro w2 hown hgrow
     have hb2 : Below w1.heap.size w1 w2 := (Below.refl _ _).grown hgrow (Nat.le_refl _) (fun k hk => by cases hk)
     have HO : Hid (Bw w2 w1.heap.size N ((List.range N).map (tkB (L.take 0)))) := by rw [← none_taken]; exact Bw.made hown
     obtain ⟨⟨_, b0, b1⟩, _⟩ := boxC (keep HX.out hb2)
     have HB2 : Hid (Below w1.heap.size w1 w2) := hb2
     clear hown hgrow hb2)
  clear x0 x1 hw1
  go_loopw [13] (fun i wr => ∃ (k : Nat), k ≤ n ∧ i = .int .i64 (k : Int) ∧ Below w1.heap.size w1 wr ∧ Hid (Bw wr w1.heap.size N ((List.range N).map (tkB (L.take k))))) (fun i _ => n - (intOf i).toNat)
  case atStart => exact ⟨0, Nat.zero_le _, rfl, HB2.out, HO.out⟩
  case round =>
    obtain ⟨k, hk, rfl, hbr, HA⟩ := hrel
    have HBr : Hid (Below w1.heap.size w1 wr) := hbr
    by_cases hlt : ¬ k < n
    · have HE : Hid (Bw wr w1.heap.size N (tkL N L)) := by
        have := HA.out
        rw [List.take_of_length_le (by have := HN.out; omega)] at this
        exact this
      clear hbr HA
      go_wp2
      go_ret
      exact ⟨_, HB1.out.size, rfl, HE.out, bsq HB1.out HBr.out⟩
    have hlt : k < n := by omega
    have hkL : k < L.length := by have := HN.out; omega
    obtain ⟨x, hx⟩ : ∃ x, L[k]? = some x := ⟨L[k], List.getElem?_eq_getElem hkL⟩
    obtain ⟨r1, r2, r3⟩ := row_mem HW.out (List.mem_of_getElem? hx)
    obtain ⟨p, hp⟩ : ∃ p : Nat, x.1 = (p : Int) := ⟨x.1.toNat, by omega⟩
    obtain ⟨m, hm⟩ : ∃ m : Nat, x.2 = (m : Int) := ⟨x.2.toNat, by omega⟩
    obtain ⟨g, off, rfl, hcell⟩ := HR.out.at k x hx
    obtain ⟨c0, c1⟩ := hcell wr hbr
    rw [hp] at c0
    rw [hm] at c1
    have hpm : p + m ≤ N := by omega
    have HX' : Hid (L[k]? = some x ∧ x.1 = (p : Int) ∧ x.2 = (m : Int)) := ⟨hx, hp, hm⟩
    obtain ⟨v1, v2, hv1, hv2, hY1, hY2, hb2⟩ := laid2 wr 43 (.int .i64 0) (.int .i64 0) (.int .i64 (p : Int)) (.int .i64 (m : Int))
    obtain ⟨⟨hy, y0, y1⟩, g0, g1⟩ := boxC hY1
    obtain ⟨⟨hyf, t0, t1⟩, _⟩ := boxC hY2
    have HS2 : Hid (Bw v2 w1.heap.size N ((List.range N).map (mid L k x 0)) ∧ v2.heap[wr.heap.size]? = some (spO (p : Int) (m : Int)) ∧ Below w1.heap.size w1 v2 ∧ w1.heap.size < wr.heap.size) := ⟨by rw [mid_zero]; exact HA.out.below hb2, hY2, bsq hbr hb2, HA.out.lt⟩
    clear hcell hx hkL hbr hY1 hY2 hb2 HA r1 r2 r3 hp hm
    obtain ⟨X5, hX5⟩ : ∃ X, wr.heap.size = X := ⟨_, rfl⟩
    rw [hX5] at hv2 hy y0 y1 g0 g1 hyf t0 t1 HS2
    go_wp2_with fail
    try rw [hv2]
    clear hv2 hv1 y0 y1 g0 g1 hX5
    go_loopw [19] (fun i wi => ∃ (j : Nat), j ≤ m ∧ i = .int .i64 (j : Int) ∧ Hid (Bw wi w1.heap.size N ((List.range N).map (mid L k x j)) ∧ wi.heap[X5]? = some (spO (p : Int) (m : Int)) ∧ Below w1.heap.size w1 wi ∧ w1.heap.size < X5)) (fun i _ => m - (intOf i).toNat)
    case atStart => exact ⟨0, Nat.zero_le _, rfl, HS2.out⟩
    case round =>
      obtain ⟨j, hj, rfl, HB⟩ := hrel
      by_cases hlj : ¬ j < m
      · have hjm : m = j := by omega
        have HE : Hid (Bw wr w1.heap.size N ((List.range N).map (tkB (L.take (k + 1)))) ∧ Below w1.heap.size w1 wr) := by
          have := HB.out.1
          rw [mid_end HX'.out.1 (by rw [HX'.out.2.2, hjm])] at this
          exact ⟨this, HB.out.2.2.1⟩
        clear HB hjm
        go_wp2
        go_roundw
        case rel => exact ⟨k + 1, by omega, by go_num, HE.out.2, HE.out.1⟩
        case measure => simp [intOf]; omega
      have hlj : j < m := by omega
      obtain ⟨q, hq⟩ : ∃ q : Nat, p + j = q := ⟨_, rfl⟩
      have hqi : (p : Int) + (j : Int) = (q : Int) := by omega
      have hqN : q < N := by omega
      obtain ⟨⟨_, s0, s1⟩, _⟩ := boxC HB.out.2.1
      have cq := HB.out.1.cell (k := q) (x := mid L k x j q) (by simp [hqN])
      obtain ⟨bq, hbq⟩ : ∃ b, mid L k x j q = b := ⟨_, rfl⟩
      rw [hbq] at cq
      have fq := HB.out.1.free q
      have HE : Hid (Bw (wr.setCell ⟨w1.heap.size, q, none⟩ (.bool true)) w1.heap.size N ((List.range N).map (mid L k x (j + 1))) ∧ (wr.setCell ⟨w1.heap.size, q, none⟩ (.bool true)).heap[X5]? = some (spO (p : Int) (m : Int)) ∧ Below w1.heap.size w1 (wr.setCell ⟨w1.heap.size, q, none⟩ (.bool true)) ∧ w1.heap.size < X5) := by
        refine ⟨?_, ?_, HB.out.2.2.1.setCell (Nat.le_refl _) _, HB.out.2.2.2⟩
        · have := HB.out.1.set q true
          rw [mid_step (by rw [HX'.out.2.1]; exact hqi) hqN] at this
          exact this
        · rw [heap_setCell_other _ _ _ _ (show X5 ≠ w1.heap.size by have := HB.out.2.2.2; omega)]
          exact HB.out.2.1
      clear HB hq hbq
      go_wp2
      go_roundw
      case rel => exact ⟨j + 1, by omega, by go_num, HE.out⟩
      case measure => simp [intOf]; omega
end Go.Proofs.Ytifebinpjpalhaa.arena
