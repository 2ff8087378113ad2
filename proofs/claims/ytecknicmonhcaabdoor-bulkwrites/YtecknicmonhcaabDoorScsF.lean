/- scsi: write. -/
import Derived.Test.YtecknicmonhcaabDoorScsE
namespace Go.Proofs.YtecknicmonhcaabDoor.scsi
open Go.RowKit Go.PlainAid Go.Proofs.YtecknicmonhcaabDoor.lane Go.Proofs.YtecknicmonhcaabDoor.pipe Go.Proofs.YtecknicmonhcaabDoor.strike
set_option linter.unusedVariables false
set_option linter.unusedSimpArgs false
set_option maxRecDepth 100000

theorem txs_len {w : World} {B L cap : Nat} {a : Option Addr} {l : List ByteArray} (h : Txs w B (.slice a L cap) l) : l.length = L := by
  obtain ⟨a, c, hv, _⟩ := h.form
  injection hv with _ e _
  exact e.symm
theorem txs_set {w : World} {B g L cap : Nat} {l : List ByteArray} (h : Txs w B (.slice (some ⟨g, 0, none⟩) L cap) l) (j : Nat) (y : ByteArray) : Txs (w.setCell ⟨g, j, none⟩ (.string y)) B (.slice (some ⟨g, 0, none⟩) L cap) (l.set j y) := by
  obtain rfl := txs_len h
  have := (World.ownsRow.stored h j (.string y)).1
  unfold Txs
  rw [List.length_set]
  rw [show scells (l.set j y) = (scells l).set j (.string y) by simp [scells]]
  exact this
theorem txs_cell {w : World} {B g L cap : Nat} {l : List ByteArray} (h : Txs w B (.slice (some ⟨g, 0, none⟩) L cap) l) (j : Nat) (hj : j < l.length) : w.cell? ⟨g, j, none⟩ = some (.string l[j]) := by
  obtain rfl := txs_len h
  rw [World.ownsRow.cellAt h j (by omega)]
  exact scells_at (List.getElem?_eq_getElem hj)
theorem txs_free {w : World} {B g L cap : Nat} {l : List ByteArray} (h : Txs w B (.slice (some ⟨g, 0, none⟩) L cap) l) (j : Nat) : w.frozen? ⟨g, j, none⟩ = false := by
  obtain rfl := txs_len h
  exact World.ownsRow.frozenAt h j
theorem txs_block {w : World} {B g L cap : Nat} {l : List ByteArray} (h : Txs w B (.slice (some ⟨g, 0, none⟩) L cap) l) : B ≤ g ∧ g < w.heap.size := World.ownsRow.lt h g rfl
theorem wr_zero (b : List ByteArray) (i : Nat) (x : ByteArray) : wrB b i 0 x = b := by simp [wrB, cut16]
theorem wr_set {b : List ByteArray} {i k : Nat} {x : ByteArray} (h : i + k < b.length) : (wrB b i k x).set (i + k) (x.extract (k * 16) ((k + 1) * 16)) = wrB b i (k + 1) x := by
  apply List.ext_getElem?
  intro j
  rw [List.getElem?_set, wr_at (by omega), wr_at (by omega)]
  by_cases q : i + k = j
  · subst q
    rw [if_pos rfl, if_pos (by rw [wr_length (by omega)]; exact h), if_pos (by omega), cut_at (by omega)]
    rw [show i + k - i = k by omega]
  · rw [if_neg q]
    by_cases q2 : i ≤ j ∧ j < i + k
    · rw [if_pos q2, if_pos (by omega), cut_at (by omega), cut_at (by omega)]
    · rw [if_neg q2, if_neg (by omega)]
/-- the part of a text from i up to j -/
theorem run_part (s : ByteArray) (i j : Int) (h0 : 0 ≤ i) (h1 : i ≤ j) (h2 : j ≤ s.size) (W : World) : (Instr.slice 9 (.string s) (some (.int .i64 i)) (some (.int .i64 j)) none).run Tryd.prog W = .ok (.string (s.extract i.toNat j.toNat)) W := by
  have := run_slice_string (P := Tryd.prog) (w := W) 9 s .i64 .i64 i j Tryd.underlying9
  simp [this, h0, h1, h2]
set_option maxHeartbeats 2000000 in
theorem write_bad (a : Option Addr) (n c : Nat) (x : ByteArray) (w : World) (hn : n ≤ 64) (hx : x.size ≤ maxLen) (h : x.size ≠ 16 * n) : Calls Tryd.prog 67 #[.slice a n c, .string x] w fun e w' => e = .returned (fmI 36) ∧ w = w' := by
  have e1 : ((x.size : Int) != (n : Int) * 16) = true := by rw [bne_iff_ne]; omega
  unfold maxLen at hx
  clear h
  go_enter Tryd.func67, Tryd.ntmps67
  go_wp2
  go_ret
  exact ⟨rfl, rfl⟩
set_option maxHeartbeats 2000000 in
theorem write_good (a : Option Addr) (n c i : Nat) (x : ByteArray) (B g L cap : Nat) (b : List ByteArray) (w : World) (ht : Txs w B (.slice (some ⟨g, 0, none⟩) L cap) b) (hb : b.length ≤ 64) (hin : i + n ≤ b.length) (ha : 0 < n → a = some ⟨g, i, none⟩) (h : x.size = 16 * n) :
    Calls Tryd.prog 67 #[.slice a n c, .string x] w fun e w' => e = .returned .nilIface ∧ Txs w' B (.slice (some ⟨g, 0, none⟩) L cap) (wrB b i n x) ∧ Below B w w' ∧ w'.heap.size = w.heap.size ∧ ∀ k, k ≠ g → w'.heap[k]? = w.heap[k]? := by
  have e1 : ((x.size : Int) != (n : Int) * 16) = false := by rw [bne_eq_false_iff_eq]; omega
  have HT : Hid (Txs w B (.slice (some ⟨g, 0, none⟩) L cap) b) := ht
  have HG : Hid (B ≤ g) := (txs_block ht).1
  have HA : Hid (0 < n → a = some ⟨g, i, none⟩) := ha
  have HI : Hid (i + n ≤ b.length) := hin
  have HN : Hid (n ≤ 64) := by show _ ≤ _; omega
  have hn : n ≤ 64 := HN.out
  clear ht hb hin ha
  go_enter Tryd.func67, Tryd.ntmps67
  go_wp2
  go_loopw [16] (fun iv wr => ∃ k : Nat, k ≤ n ∧ iv = .int .i64 (k : Int) ∧ Hid (Txs wr B (.slice (some ⟨g, 0, none⟩) L cap) (wrB b i k x) ∧ Below B w wr ∧ wr.heap.size = w.heap.size ∧ ∀ k, k ≠ g → wr.heap[k]? = w.heap[k]?)) (fun iv _ => n - (intOf iv).toNat)
  case atStart => exact ⟨0, Nat.zero_le _, rfl, by rw [wr_zero]; exact HT.out, Below.refl _ _, rfl, fun _ _ => rfl⟩
  case round =>
    obtain ⟨k, hk, rfl, HR⟩ := hrel
    by_cases hlt : ¬ k < n
    · obtain rfl : k = n := by omega
      clear HT HA HI HN
      go_wp2
      go_ret
      exact ⟨rfl, HR.out⟩
    · have hlt : k < n := by omega
      have hl : i + k < (wrB b i k x).length := by rw [wr_length (by have := HI.out; omega)]; have := HI.out; omega
      obtain ⟨z, hce⟩ : ∃ z, wr.cell? ⟨g, i + k, none⟩ = some (.string z) := ⟨_, txs_cell HR.out.1 (i + k) hl⟩
      have hfr := txs_free HR.out.1 (i + k)
      have haa := HA.out (by omega)
      obtain ⟨y, hy⟩ : ∃ y, x.extract (k * 16) ((k + 1) * 16) = y := ⟨_, rfl⟩
      have hset := txs_set HR.out.1 (i + k) y
      rw [← hy, wr_set (by have := HI.out; omega), hy] at hset
      have HS : Hid (Txs (wr.setCell ⟨g, i + k, none⟩ (.string y)) B (.slice (some ⟨g, 0, none⟩) L cap) (wrB b i (k + 1) x) ∧ Below B w (wr.setCell ⟨g, i + k, none⟩ (.string y)) ∧ (wr.setCell ⟨g, i + k, none⟩ (.string y)).heap.size = w.heap.size ∧ ∀ j, j ≠ g → (wr.setCell ⟨g, i + k, none⟩ (.string y)).heap[j]? = w.heap[j]?) :=
        ⟨hset, HR.out.2.1.setCell HG.out _, by have := HR.out.2.2.1; simpa using this, fun j hj => (heap_setCell_other _ _ _ _ hj).trans (HR.out.2.2.2 j hj)⟩
      subst haa
      have hsl : ∀ W, (Instr.slice 9 (.string x) (some (.int .i64 ((k : Int) * 16))) (some (.int .i64 (((k : Int) + 1) * 16))) none).run Tryd.prog W = .ok (.string y) W := fun W => by
        rw [run_part x _ _ (by omega) (by omega) (by omega), ← hy]
        congr 3 <;> omega
      clear HR hset HT hl HA HI HN HG hy
      go_wp2
      go_roundw
      case rel => exact ⟨k + 1, by omega, by go_num, HS.out⟩
      case measure => simp [intOf]; omega
end Go.Proofs.YtecknicmonhcaabDoor.scsi
