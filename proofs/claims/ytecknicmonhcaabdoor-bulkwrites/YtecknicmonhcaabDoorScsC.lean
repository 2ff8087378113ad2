/- scsi: number and value. -/
import Derived.Test.YtecknicmonhcaabDoorScsA
import Derived.Laws.BytesArg
namespace Go.Proofs.YtecknicmonhcaabDoor.scsi
open Go.RowKit Go.PlainAid Go.Lib Go.Proofs.YtecknicmonhcaabDoor.lane Go.Proofs.YtecknicmonhcaabDoor.pipe Go.Proofs.YtecknicmonhcaabDoor.strike
set_option linter.unusedVariables false
set_option linter.unusedSimpArgs false
set_option maxRecDepth 100000

theorem infoB : (Tryd.prog.info? 5).map (fun i => (i.zero, i.size, i.bytes)) = some (some (.int .u8 0), 1, 1) := by kernel_rfl
/-- a row of n bytes of the call's own, in block B -/
def Rw (w : World) (B n : Nat) (l : List Int) : Prop := w.ownsRow B 5 1 (.slice (some ⟨B, 0, none⟩) n n) n (l.map (Value.int .u8))
theorem Rw.len {w : World} {B n : Nat} {l : List Int} (h : Rw w B n l) : l.length = n := by have := h.1; simpa using this
theorem Rw.free {w : World} {B n : Nat} {l : List Int} (h : Rw w B n l) (k : Nat) : w.frozen? ⟨B, k, none⟩ = false := World.ownsRow.frozenAt h k
theorem Rw.cell {w : World} {B n : Nat} {l : List Int} (h : Rw w B n l) (k : Nat) (hk : k < n) : w.cell? ⟨B, k, none⟩ = some (.int .u8 (l.getD k 0)) := by
  have hl := h.len
  rw [World.ownsRow.cellAt h k (by omega)]
  simp [List.getD, List.getElem?_eq_getElem (show k < l.length by omega)]
theorem Rw.set {w : World} {B n : Nat} {l : List Int} (h : Rw w B n l) (k : Nat) (v : Int) : Rw (w.setCell ⟨B, k, none⟩ (.int .u8 v)) B n (l.set k v) := by
  have := (World.ownsRow.stored h k (.int .u8 v)).1
  unfold Rw
  rw [List.map_set]
  exact this
theorem Rw.made {w : World} {B n : Nat} (h : w.ownsRow B 5 1 (.slice (some ⟨B, 0, none⟩) n n) n (madeCells (Value.int .u8 0).cells (n * 1)).toList) : Rw w B n (List.replicate n 0) := by
  have e : (madeCells (Value.int .u8 0).cells (n * 1)).toList = (List.replicate n (0 : Int)).map (Value.int .u8) := by
    rw [Nat.mul_one]
    have := toList_madeCells_one (Value.int .u8 0) n
    rw [List.map_replicate]
    exact this
  rw [e] at h
  exact h
theorem Rw.conv {w : World} {B n : Nat} {l : List Int} (h : Rw w B n l) :
    (convert 26 9 (.slice (some ⟨B, 0, none⟩) n n)).run Tryd.prog w = .ok (.string (strOfNums l)) w := by
  refine run_convert_bytes_arg w 26 5 Tryd.underlying26 Tryd.underlying5 B 0 n n l h.len ?_ 9 Tryd.underlying9
  intro i hi
  have hl := h.len
  rw [Nat.zero_add]
  exact h.cell i (by omega)
/-- byte k of m of a number, the highest first -/
def byN (n : Int) (m k : Nat) : Int := n / 256 ^ (m - 1 - k) % 256
def rwP (n : Int) (m k : Nat) : List Int := (List.range m).map fun j => if j < k then byN n m j else 0
theorem rwP_zero (n : Int) (m : Nat) : rwP n m 0 = List.replicate m 0 := by
  apply List.ext_getElem?
  intro i
  simp [rwP, List.getElem?_replicate]
  by_cases h : i < m <;> simp [h]
theorem rwP_set (n : Int) (m k : Nat) (h : k < m) : (rwP n m k).set k (byN n m k) = rwP n m (k + 1) := by
  apply List.ext_getElem?
  intro i
  rw [List.getElem?_set]
  by_cases hi : k = i
  · subst hi; simp [rwP, h]
  · rw [if_neg hi]
    by_cases h2 : i < m
    · simp [rwP, h2]
      by_cases h3 : i < k
      · rw [if_pos h3, if_pos (by omega)]
      · rw [if_neg h3, if_neg (by omega)]
    · simp [rwP, h2]
set_option maxHeartbeats 2000000 in
theorem number_4 (n : Int) (w : World) (h0 : 0 ≤ n) (h1 : n ≤ 4294967295) : Calls Tryd.prog 52 #[.int .i64 n, .int .i64 4] w fun e w' => e = .returned (.string (strOfNums (be4 n))) ∧ Below w.heap.size w w' := by
  obtain ⟨i0, hi, hz0, hz1, hz2⟩ := info_parts infoB
  have HE : Hid (rwP n 4 4 = be4 n) := by
    show _ = _
    simp [rwP, byN, be4, List.range, List.range.loop]
  have HI : Hid (rwP n 4 0 = List.replicate 4 0) := rwP_zero n 4
  go_enter Tryd.func52, Tryd.ntmps52
  go_wp2_with (at_make; (refine wpList_make_full _ rfl _ _ 26 rfl w.heap.size 5 i0 (.int .u8 0) 1 Tryd.underlying26 hi hz0 hz1 _ _ _ _ 4 rfl rfl (by omega) (by omega) (by rw [hz2]; omega) (by unfold maxLen; omega) (Nat.le_refl _) ?_); intro w1 hown hgrow)
  go_loopw [11] (fun i wr => ∃ k : Nat, k ≤ 4 ∧ i = .int .i64 (k : Int) ∧ Hid (Rw wr w.heap.size 4 (rwP n 4 k) ∧ Below w.heap.size w wr)) (fun i _ => 4 - (intOf i).toNat)
  case atStart => exact ⟨0, by omega, rfl, ⟨by rw [HI.out]; exact Rw.made hown, (Below.refl _ _).grown hgrow (Nat.le_refl _) (fun k hk => by cases hk)⟩⟩
  case round =>
    obtain ⟨k, hk, rfl, HR⟩ := hrel
    clear hown hgrow HI
    have hk' : k = 0 ∨ k = 1 ∨ k = 2 ∨ k = 3 ∨ k = 4 := by omega
    rcases hk' with rfl | rfl | rfl | rfl | rfl
    · have hfr := HR.out.1.free 0
      have hce := HR.out.1.cell 0 (by omega)
      have hset := HR.out.1.set 0 (byN n 4 0)
      rw [rwP_set n 4 0 (by omega)] at hset
      have e : byN n 4 0 = n / 16777216 := by show n / 16777216 % 256 = _; omega
      rw [e] at hset
      have HS : Hid (Rw (wr.setCell ⟨w.heap.size, 0, none⟩ (.int .u8 (n / 16777216))) w.heap.size 4 (rwP n 4 1) ∧ Below w.heap.size w (wr.setCell ⟨w.heap.size, 0, none⟩ (.int .u8 (n / 16777216)))) := ⟨hset, HR.out.2.setCell (Nat.le_refl _) _⟩
      clear hset HR e HE
      go_wp2
      go_roundw
      case rel => exact ⟨1, by omega, rfl, HS.out⟩
      case measure => simp [intOf]
    · have hfr := HR.out.1.free 1
      have hce := HR.out.1.cell 1 (by omega)
      have hset := HR.out.1.set 1 (byN n 4 1)
      rw [rwP_set n 4 1 (by omega)] at hset
      have e : byN n 4 1 = n / 65536 % 256 := rfl
      rw [e] at hset
      have HS : Hid (Rw (wr.setCell ⟨w.heap.size, 1, none⟩ (.int .u8 (n / 65536 % 256))) w.heap.size 4 (rwP n 4 2) ∧ Below w.heap.size w (wr.setCell ⟨w.heap.size, 1, none⟩ (.int .u8 (n / 65536 % 256)))) := ⟨hset, HR.out.2.setCell (Nat.le_refl _) _⟩
      clear hset HR e HE
      go_wp2
      go_roundw
      case rel => exact ⟨2, by omega, rfl, HS.out⟩
      case measure => simp [intOf]
    · have hfr := HR.out.1.free 2
      have hce := HR.out.1.cell 2 (by omega)
      have hset := HR.out.1.set 2 (byN n 4 2)
      rw [rwP_set n 4 2 (by omega)] at hset
      have e : byN n 4 2 = n / 256 % 256 := rfl
      rw [e] at hset
      have HS : Hid (Rw (wr.setCell ⟨w.heap.size, 2, none⟩ (.int .u8 (n / 256 % 256))) w.heap.size 4 (rwP n 4 3) ∧ Below w.heap.size w (wr.setCell ⟨w.heap.size, 2, none⟩ (.int .u8 (n / 256 % 256)))) := ⟨hset, HR.out.2.setCell (Nat.le_refl _) _⟩
      clear hset HR e HE
      go_wp2
      go_roundw
      case rel => exact ⟨3, by omega, rfl, HS.out⟩
      case measure => simp [intOf]
    · have hfr := HR.out.1.free 3
      have hce := HR.out.1.cell 3 (by omega)
      have hset := HR.out.1.set 3 (byN n 4 3)
      rw [rwP_set n 4 3 (by omega)] at hset
      have e : byN n 4 3 = n % 256 := by show n / 1 % 256 = _; omega
      rw [e] at hset
      have HS : Hid (Rw (wr.setCell ⟨w.heap.size, 3, none⟩ (.int .u8 (n % 256))) w.heap.size 4 (rwP n 4 4) ∧ Below w.heap.size w (wr.setCell ⟨w.heap.size, 3, none⟩ (.int .u8 (n % 256)))) := ⟨hset, HR.out.2.setCell (Nat.le_refl _) _⟩
      clear hset HR e HE
      go_wp2
      go_roundw
      case rel => exact ⟨4, by omega, rfl, HS.out⟩
      case measure => simp [intOf]
    · have hcv := HR.out.1.conv
      rw [HE.out] at hcv
      have HB : Hid (Below w.heap.size w wr) := HR.out.2
      clear HR HE
      go_wp2
      go_ret
      exact ⟨rfl, HB.out⟩
set_option maxHeartbeats 2000000 in
theorem number_2 (n : Int) (w : World) (h0 : 0 ≤ n) (h1 : n ≤ 65535) : Calls Tryd.prog 52 #[.int .i64 n, .int .i64 2] w fun e w' => e = .returned (.string (strOfNums (be2 n))) ∧ Below w.heap.size w w' := by
  obtain ⟨i0, hi, hz0, hz1, hz2⟩ := info_parts infoB
  have HE : Hid (rwP n 2 2 = be2 n) := by
    show _ = _
    simp [rwP, byN, be2, List.range, List.range.loop]
  have HI : Hid (rwP n 2 0 = List.replicate 2 0) := rwP_zero n 2
  go_enter Tryd.func52, Tryd.ntmps52
  go_wp2_with (at_make; (refine wpList_make_full _ rfl _ _ 26 rfl w.heap.size 5 i0 (.int .u8 0) 1 Tryd.underlying26 hi hz0 hz1 _ _ _ _ 2 rfl rfl (by omega) (by omega) (by rw [hz2]; omega) (by unfold maxLen; omega) (Nat.le_refl _) ?_); intro w1 hown hgrow)
  go_loopw [11] (fun i wr => ∃ k : Nat, k ≤ 2 ∧ i = .int .i64 (k : Int) ∧ Hid (Rw wr w.heap.size 2 (rwP n 2 k) ∧ Below w.heap.size w wr)) (fun i _ => 2 - (intOf i).toNat)
  case atStart => exact ⟨0, by omega, rfl, ⟨by rw [HI.out]; exact Rw.made hown, (Below.refl _ _).grown hgrow (Nat.le_refl _) (fun k hk => by cases hk)⟩⟩
  case round =>
    obtain ⟨k, hk, rfl, HR⟩ := hrel
    clear hown hgrow HI
    have hk' : k = 0 ∨ k = 1 ∨ k = 2 := by omega
    rcases hk' with rfl | rfl | rfl
    · have hfr := HR.out.1.free 0
      have hce := HR.out.1.cell 0 (by omega)
      have hset := HR.out.1.set 0 (byN n 2 0)
      rw [rwP_set n 2 0 (by omega)] at hset
      have e : byN n 2 0 = n / 256 := by show n / 256 % 256 = _; omega
      rw [e] at hset
      have HS : Hid (Rw (wr.setCell ⟨w.heap.size, 0, none⟩ (.int .u8 (n / 256))) w.heap.size 2 (rwP n 2 1) ∧ Below w.heap.size w (wr.setCell ⟨w.heap.size, 0, none⟩ (.int .u8 (n / 256)))) := ⟨hset, HR.out.2.setCell (Nat.le_refl _) _⟩
      clear hset HR e HE
      go_wp2
      go_roundw
      case rel => exact ⟨1, by omega, rfl, HS.out⟩
      case measure => simp [intOf]
    · have hfr := HR.out.1.free 1
      have hce := HR.out.1.cell 1 (by omega)
      have hset := HR.out.1.set 1 (byN n 2 1)
      rw [rwP_set n 2 1 (by omega)] at hset
      have e : byN n 2 1 = n % 256 := by show n / 1 % 256 = _; omega
      rw [e] at hset
      have HS : Hid (Rw (wr.setCell ⟨w.heap.size, 1, none⟩ (.int .u8 (n % 256))) w.heap.size 2 (rwP n 2 2) ∧ Below w.heap.size w (wr.setCell ⟨w.heap.size, 1, none⟩ (.int .u8 (n % 256)))) := ⟨hset, HR.out.2.setCell (Nat.le_refl _) _⟩
      clear hset HR e HE
      go_wp2
      go_roundw
      case rel => exact ⟨2, by omega, rfl, HS.out⟩
      case measure => simp [intOf]
    · have hcv := HR.out.1.conv
      rw [HE.out] at hcv
      have HB : Hid (Below w.heap.size w wr) := HR.out.2
      clear HR HE
      go_wp2
      go_ret
      exact ⟨rfl, HB.out⟩
theorem bt_range (c : ByteArray) (k : Nat) : 0 ≤ bt c k ∧ bt c k ≤ 255 := by
  unfold bt
  split
  · have := (c[k]).toNat_lt
    omega
  · omega
theorem or_byte (n b : Int) (h0 : 0 ≤ n) (h1 : n ≤ 1099511627775) (b0 : 0 ≤ b) (b1 : b ≤ 255) : bits .or .i64 (n * 256) b = n * 256 + b := by
  obtain ⟨m, rfl⟩ := Int.eq_ofNat_of_zero_le h0
  obtain ⟨k, rfl⟩ := Int.eq_ofNat_of_zero_le b0
  have e : m * 256 ||| k = m * 256 + k := by
    have := Nat.two_pow_add_eq_or_of_lt (i := 8) (b := k) (by omega) m
    rw [show m * 256 = 2 ^ 8 * m by omega]
    exact this.symm
  have t1 : (BitVec.ofInt 64 ((m : Int) * 256)).toNat = m * 256 := by rw [BitVec.toNat_ofInt]; omega
  have t2 : (BitVec.ofInt 64 (k : Int)).toNat = k := by rw [BitVec.toNat_ofInt]; omega
  show IntKind.i64.wrap ((BitVec.ofInt 64 ((m : Int) * 256) ||| BitVec.ofInt 64 (k : Int)).toNat : Int) = _
  rw [BitVec.toNat_or, t1, t2, e, IntKind.wrap_i64]
  omega
set_option maxHeartbeats 2000000 in
theorem value_4 (x : ByteArray) (w : World) (hx : x.size = 4) : Calls Tryd.prog 64 #[.string x] w fun e w' => e = .returned (.int .i64 (((bt x 0 * 256 + bt x 1) * 256 + bt x 2) * 256 + bt x 3)) ∧ w = w' := by
  have hbt := get_bt x
  obtain ⟨l0, u0⟩ := bt_range x 0
  obtain ⟨l1, u1⟩ := bt_range x 1
  obtain ⟨l2, u2⟩ := bt_range x 2
  obtain ⟨l3, u3⟩ := bt_range x 3
  have r0 : bits .or .i64 (0) (bt x 0) = bt x 0 := by have := or_byte 0 (bt x 0) (by omega) (by omega) l0 u0; simpa using this
  have r1 : bits .or .i64 (bt x 0 * 256) (bt x 1) = bt x 0 * 256 + bt x 1 := or_byte _ _ (by omega) (by omega) l1 u1
  have r2 : bits .or .i64 ((bt x 0 * 256 + bt x 1) * 256) (bt x 2) = (bt x 0 * 256 + bt x 1) * 256 + bt x 2 := or_byte _ _ (by omega) (by omega) l2 u2
  have r3 : bits .or .i64 (((bt x 0 * 256 + bt x 1) * 256 + bt x 2) * 256) (bt x 3) = ((bt x 0 * 256 + bt x 1) * 256 + bt x 2) * 256 + bt x 3 := or_byte _ _ (by omega) (by omega) l3 u3
  go_enter Tryd.func64, Tryd.ntmps64
  go_wp2
  go_loopw [3, 7] (fun v i wr => ∃ k : Nat, k ≤ 4 ∧ i = .int .i64 (k : Int) ∧ v = .int .i64 (if k = 0 then 0 else if k = 1 then bt x 0 else if k = 2 then bt x 0 * 256 + bt x 1 else if k = 3 then (bt x 0 * 256 + bt x 1) * 256 + bt x 2 else ((bt x 0 * 256 + bt x 1) * 256 + bt x 2) * 256 + bt x 3) ∧ w = wr) (fun _ i _ => 4 - (intOf i).toNat)
  case atStart => exact ⟨0, by omega, rfl, rfl, rfl⟩
  case round =>
    obtain ⟨k, hk, rfl, rfl, rfl⟩ := hrel
    have hk' : k = 0 ∨ k = 1 ∨ k = 2 ∨ k = 3 ∨ k = 4 := by omega
    rcases hk' with rfl | rfl | rfl | rfl | rfl
    · go_wp2
      go_roundw
      case rel => exact ⟨1, by omega, rfl, rfl, trivial⟩
      case measure => simp [intOf]
    · go_wp2
      go_roundw
      case rel => exact ⟨2, by omega, rfl, rfl, trivial⟩
      case measure => simp [intOf]
    · go_wp2
      go_roundw
      case rel => exact ⟨3, by omega, rfl, rfl, trivial⟩
      case measure => simp [intOf]
    · go_wp2
      go_roundw
      case rel => exact ⟨4, by omega, rfl, rfl, trivial⟩
      case measure => simp [intOf]
    · go_wp2
      go_ret
      exact ⟨rfl, rfl⟩
set_option maxHeartbeats 2000000 in
theorem value_2 (x : ByteArray) (w : World) (hx : x.size = 2) : Calls Tryd.prog 64 #[.string x] w fun e w' => e = .returned (.int .i64 (bt x 0 * 256 + bt x 1)) ∧ w = w' := by
  have hbt := get_bt x
  obtain ⟨l0, u0⟩ := bt_range x 0
  obtain ⟨l1, u1⟩ := bt_range x 1
  have r0 : bits .or .i64 (0) (bt x 0) = bt x 0 := by have := or_byte 0 (bt x 0) (by omega) (by omega) l0 u0; simpa using this
  have r1 : bits .or .i64 (bt x 0 * 256) (bt x 1) = bt x 0 * 256 + bt x 1 := or_byte _ _ (by omega) (by omega) l1 u1
  go_enter Tryd.func64, Tryd.ntmps64
  go_wp2
  go_loopw [3, 7] (fun v i wr => ∃ k : Nat, k ≤ 2 ∧ i = .int .i64 (k : Int) ∧ v = .int .i64 (if k = 0 then 0 else if k = 1 then bt x 0 else bt x 0 * 256 + bt x 1) ∧ w = wr) (fun _ i _ => 2 - (intOf i).toNat)
  case atStart => exact ⟨0, by omega, rfl, rfl, rfl⟩
  case round =>
    obtain ⟨k, hk, rfl, rfl, rfl⟩ := hrel
    have hk' : k = 0 ∨ k = 1 ∨ k = 2 := by omega
    rcases hk' with rfl | rfl | rfl
    · go_wp2
      go_roundw
      case rel => exact ⟨1, by omega, rfl, rfl, trivial⟩
      case measure => simp [intOf]
    · go_wp2
      go_roundw
      case rel => exact ⟨2, by omega, rfl, rfl, trivial⟩
      case measure => simp [intOf]
    · go_wp2
      go_ret
      exact ⟨rfl, rfl⟩
end Go.Proofs.YtecknicmonhcaabDoor.scsi
