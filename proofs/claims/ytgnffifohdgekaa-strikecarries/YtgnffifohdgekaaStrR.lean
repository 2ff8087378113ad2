/- plugref: what Pieces answers. -/
import Derived.Test.YtgnffifohdgekaaStrD
import Derived.Test.YtgnffifohdgekaaPipR
namespace Go.Proofs.Ytgnffifohdgekaa.strike
open Go.RowKit Go.Proofs.Ytgnffifohdgekaa.pipe
set_option linter.unusedVariables false
set_option linter.unusedSimpArgs false
set_option maxRecDepth 100000

theorem tdiv_nat (a b : Nat) : Int.tdiv (a : Int) (b : Int) = ((a / b : Nat) : Int) := by
  rw [Int.tdiv_eq_ediv_of_nonneg (by omega)]; exact (Int.natCast_ediv a b).symm
/-- a row of n texts of the call's own, in block B -/
def Sw (w : World) (B n : Nat) (l : List ByteArray) : Prop := w.ownsRow B 9 1 (.slice (some ⟨B, 0, none⟩) n n) n (scells l)
theorem Sw.len {w : World} {B n : Nat} {l : List ByteArray} (h : Sw w B n l) : l.length = n := by have := h.1; simpa [scells] using this
theorem Sw.free {w : World} {B n : Nat} {l : List ByteArray} (h : Sw w B n l) (k : Nat) : w.frozen? ⟨B, k, none⟩ = false := World.ownsRow.frozenAt h k
theorem Sw.cell {w : World} {B n : Nat} {l : List ByteArray} (h : Sw w B n l) (k : Nat) (hk : k < n) : ∃ x, w.cell? ⟨B, k, none⟩ = some (.string x) := by
  have hl := h.len
  refine ⟨l[k], ?_⟩
  rw [World.ownsRow.cellAt h k (by omega)]
  exact scells_at (List.getElem?_eq_getElem (by omega))
theorem Sw.set {w : World} {B n : Nat} {l : List ByteArray} (h : Sw w B n l) (k : Nat) (v : ByteArray) : Sw (w.setCell ⟨B, k, none⟩ (.string v)) B n (l.set k v) := by
  have := (World.ownsRow.stored h k (.string v)).1
  unfold Sw
  rw [show scells (l.set k v) = (scells l).set k (.string v) by simp [scells, List.map_set]]
  exact this
theorem Sw.made {w : World} {B n : Nat} (h : w.ownsRow B 9 1 (.slice (some ⟨B, 0, none⟩) n n) n (madeCells (Value.string ⟨#[]⟩).cells (n * 1)).toList) : Sw w B n (List.replicate n ⟨#[]⟩) := by
  have e : (madeCells (Value.string ⟨#[]⟩).cells (n * 1)).toList = scells (List.replicate n ⟨#[]⟩) := by
    rw [Nat.mul_one]
    have := toList_madeCells_one (Value.string ⟨#[]⟩) n
    unfold scells
    rw [List.map_replicate]
    exact this
  rw [e] at h
  exact h
theorem Sw.txs {w : World} {B n : Nat} {l : List ByteArray} (h : Sw w B n l) : Txs w B (.slice (some ⟨B, 0, none⟩) n n) l := by
  unfold Txs; rw [h.len]; exact h
theorem set_take {l : List ByteArray} {k : Nat} (h : k < l.length) (e : ByteArray) : ((l.take k) ++ List.replicate (l.length - k) e).set k l[k] = l.take (k + 1) ++ List.replicate (l.length - (k + 1)) e := by
  have hk : (l.take k).length = k := by rw [List.length_take, Nat.min_eq_left (by omega)]
  rw [List.set_append_right _ _ (by omega), hk, Nat.sub_self, List.take_succ_eq_append_getElem h, List.append_assoc]
  congr 1
  obtain ⟨m, hm⟩ : ∃ m, l.length - k = m + 1 := ⟨l.length - k - 1, by omega⟩
  rw [hm, show l.length - (k + 1) = m by omega, List.replicate_succ]
  rfl
set_option maxHeartbeats 2000000 in
theorem refPieces_ok (n : Nat) (t : ByteArray) (w : World) (h1 : 1 ≤ n) (h2 : n ≤ 64) (ht : t.size ≤ 4096) :
    Calls Try.prog 17 #[.string t, .int .i64 (n : Int)] w fun e w' => ∃ v, e = .returned (.tuple #[v, .int .i64 0]) ∧ Txs w' w.heap.size v (pcs n t) ∧ Below w.heap.size w w' := by
  have HBT : Hid (∀ u, Calls Try.prog 27 #[.int .i64 (n : Int), .int .i64 1, .int .i64 64] u fun e w' => e = .returned (.bool true) ∧ u = w') := fun u => by
    have := between_any (n : Int) 1 64 u
    rw [decide_eq_true (by omega), decide_eq_true (by omega)] at this
    exact this
  have etd := tdiv_nat t.size n
  have hD4 : t.size / n ≤ 4096 := Nat.le_trans (Nat.div_le_self _ _) ht
  have hn0 : ((n : Int) == 0) = false := by rw [beq_eq_false_iff_ne]; omega
  obtain ⟨i0, hi, hz0, hz1, hz2⟩ := info_parts infoS
  obtain ⟨N, hN⟩ : ∃ N, t.size / n + 1 = N := ⟨_, rfl⟩
  have HKQ : Hid (∀ k, k < N → k * n ≤ t.size) := fun k hk => (div_fits (s := t.size) h1).1 (by omega)
  have HN : Hid ((pcs n t).length = N ∧ t.size / n + 1 = N) := ⟨by rw [pcs_length, hN], hN⟩
  generalize t.size / n = D at *
  have eN : (D : Int) + 1 = (N : Int) := by omega
  have hN4 : N ≤ 4097 := by omega
  clear hN
  go_enter Try.func17, Try.ntmps17
  go_wp2_with fail
  refine (HBT.out _).mono ?_
  rintro e u ⟨rfl, rfl⟩
  clear HBT
  go_wp2_with (at_make; (refine wpList_make_full _ rfl _ _ 22 rfl w.heap.size 9 i0 (.string ⟨#[]⟩) 1 Try.underlying22 hi hz0 hz1 _ _ _ _ N rfl rfl (by omega) (by omega) (by rw [hz2]; omega) (by unfold maxLen; omega) (Nat.le_refl _) ?_); intro w1 hown hgrow)
  go_loopw [22] (fun i wr => ∃ k : Nat, k ≤ N ∧ i = .int .i64 (k : Int) ∧ Hid (Sw wr w.heap.size N ((pcs n t).take k ++ List.replicate (N - k) ⟨#[]⟩) ∧ Below w.heap.size w wr)) (fun i _ => N - (intOf i).toNat)
  case atStart => exact ⟨0, Nat.zero_le _, rfl, by simpa using Sw.made hown, (Below.refl _ _).grown hgrow (Nat.le_refl _) (fun k hk => by cases hk)⟩
  case round =>
    obtain ⟨k, hk, rfl, HS⟩ := hrel
    by_cases hlt : ¬ k < N
    · obtain rfl : k = N := by omega
      have HE : Hid (Txs wr w.heap.size (.slice (some ⟨w.heap.size, 0, none⟩) k k) (pcs n t) ∧ Below w.heap.size w wr) := by
        have := HS.out.1.txs
        rw [Nat.sub_self, List.replicate_zero, List.append_nil, List.take_of_length_le (by rw [HN.out.1]; exact Nat.le_refl _)] at this
        exact ⟨this, HS.out.2⟩
      clear HS hown hgrow
      go_wp2
      go_ret2
      exact ⟨_, rfl, HE.out.1, HE.out.2⟩
    · have hlt : k < N := by omega
      have hkl : k < (pcs n t).length := by rw [HN.out.1]; exact hlt
      have hq : k * n ≤ t.size := HKQ.out k hlt
      obtain ⟨q, hqe⟩ : ∃ q, k * n = q := ⟨_, rfl⟩
      obtain ⟨m, hm⟩ : ∃ m, min (q + n) t.size = m := ⟨_, rfl⟩
      obtain ⟨x, hx⟩ : ∃ x, t.extract q m = x := ⟨_, rfl⟩
      have hxp : (pcs n t)[k] = x := by rw [pcs_at, pc, Nat.succ_mul, hqe, hm, hx]
      have eq1 : (k : Int) * (n : Int) = (q : Int) := by rw [← hqe]; exact (Int.natCast_mul k n).symm
      have eq2 : ((k : Int) + 1) * (n : Int) = (q : Int) + (n : Int) := by rw [Int.add_mul, eq1, Int.one_mul]
      have hq4 : q ≤ t.size := by omega
      have hqm : q ≤ m := by omega
      have hmt : m ≤ t.size := by omega
      have em : min (t.size : Int) ((q : Int) + (n : Int)) = (m : Int) := by omega
      have em2 : (if (q : Int) + (n : Int) < (t.size : Int) then (q : Int) + (n : Int) else (t.size : Int)) = (m : Int) := by split <;> omega
      obtain ⟨y, cy⟩ := HS.out.1.cell k hlt
      have cf := HS.out.1.free k
      have HS2 : Hid (Sw (wr.setCell ⟨w.heap.size, k, none⟩ (.string x)) w.heap.size N ((pcs n t).take (k + 1) ++ List.replicate (N - (k + 1)) ⟨#[]⟩) ∧ Below w.heap.size w (wr.setCell ⟨w.heap.size, k, none⟩ (.string x))) := by
        have := HS.out.1.set k x
        rw [← hxp, ← HN.out.1, set_take hkl, hxp, HN.out.1] at this
        exact ⟨this, HS.out.2.setCell (Nat.le_refl _) _⟩
      clear HS hown hgrow hxp hqe hm hkl hq
      go_wp2
      go_roundw
      case rel => exact ⟨k + 1, by omega, by go_num, HS2.out⟩
      case measure => simp [intOf]; omega
set_option maxHeartbeats 1000000 in
theorem refPieces_any (z : Int) (t : ByteArray) (w : World) (ht : t.size ≤ maxLen) :
    Calls Try.prog 17 #[.string t, .int .i64 z] w fun e w' => ∃ v, e = .returned (.tuple #[v, .int .i64 (spC z t)]) ∧ Txs w' w.heap.size v (spP z t) ∧ Below w.heap.size w w' := by
  unfold maxLen at ht
  have HBT : Hid (∀ u, Calls Try.prog 27 #[.int .i64 z, .int .i64 1, .int .i64 64] u fun e w' => e = .returned (.bool (sizB z)) ∧ u = w') := fun u => between_any z 1 64 u
  cases hb : sizB z with
  | false =>
    rw [hb] at HBT
    have e1 : spC z t = 1 := by unfold spC; rw [if_pos hb]
    have e2 : spP z t = [] := by unfold spP; rw [e1, if_neg (by decide)]
    rw [e1, e2]
    clear e1 e2 hb
    go_enter Try.func17, Try.ntmps17
    go_wp2_with fail
    refine (HBT.out _).mono ?_
    rintro e u ⟨rfl, rfl⟩
    clear HBT
    go_wp2
    go_ret2
    exact ⟨_, rfl, Txs.nil _ _, Below.refl _ _⟩
  | true =>
    by_cases hl : 4096 < t.size
    · rw [hb] at HBT
      have e1 : spC z t = 2 := by unfold spC; rw [hb, if_neg (by decide), if_pos hl]
      have e2 : spP z t = [] := by unfold spP; rw [e1, if_neg (by decide)]
      rw [e1, e2]
      clear e1 e2 hb
      have e3 : decide ((t.size : Int) > 4096) = true := by rw [decide_eq_true_eq]; omega
      clear hl
      go_enter Try.func17, Try.ntmps17
      go_wp2_with fail
      refine (HBT.out _).mono ?_
      rintro e u ⟨rfl, rfl⟩
      clear HBT
      go_wp2
      go_ret2
      exact ⟨_, rfl, Txs.nil _ _, Below.refl _ _⟩
    · have e1 : spC z t = 0 := by unfold spC; rw [hb, if_neg (by decide), if_neg hl]
      have e2 : spP z t = pcs z.toNat t := by unfold spP; rw [if_pos e1]
      rw [e1, e2]
      obtain ⟨h1, h2⟩ := (siz_iff z).1 hb
      have := refPieces_ok z.toNat t w (by omega) (by omega) (by omega)
      rwa [Int.toNat_of_nonneg (by omega)] at this
end Go.Proofs.Ytgnffifohdgekaa.strike
