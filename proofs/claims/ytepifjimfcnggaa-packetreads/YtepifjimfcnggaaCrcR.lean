/- plugref's crc: rows of bools; what Two, bitsOf and turnedNum answer. -/
import Derived.Test.YtepifjimfcnggaaRows
import Derived.Test.YtepifjimfcnggaaCrcM
import Derived.WalkKit
import Derived.Handy
import Derived.Below
import Derived.OwnWalk
import Derived.Laws.AppendOwn
import Derived.Deep.AppendLies
import Derived.WalkSmall
namespace Go.Proofs.Ytepifjimfcnggaa.crc
open Go.RowKit Go.PlainAid Go.Proofs.Ytepifjimfcnggaa.lane

theorem info4 : (Try.prog.info? 4).map (fun i => (i.zero, i.size, i.bytes)) = some (some (.bool false), 1, 1) := by kernel_rfl
/-- the value v owns the bools bs, in a block from B on -/
def Bls (w : World) (B : Nat) (v : Value) (bs : List Bool) : Prop := w.ownsRow B 4 1 v bs.length (bs.map Value.bool)
theorem Bls.nil (w : World) (B : Nat) : Bls w B (.slice none 0 0) [] := ⟨rfl, .inl ⟨rfl, rfl⟩⟩
theorem Bls.block {w : World} {B : Nat} {v : Value} {bs : List Bool} (h : Bls w B v bs) : ∀ k, v.ownBlock = some k → B ≤ k := by
  intro k hk
  rcases h.2 with ⟨rfl, h0⟩ | ⟨g, cap, cur, rfl, hb, _⟩
  · cases hk
  · simp [Value.ownBlock] at hk; omega
theorem Bls.push {w1 : World} {B g cap : Nat} {bs : List Bool} {x : Bool}
    (h : w1.ownsRow B 4 1 (.slice (some ⟨g, 0, none⟩) (bs.length + 1) cap) (bs.length + 1) (bs.map Value.bool ++ [.bool x])) :
    Bls w1 B (.slice (some ⟨g, 0, none⟩) (bs.length + 1) cap) (bs ++ [x]) := by
  unfold Bls
  simpa using h
theorem Bls.base {w : World} {B B' : Nat} {v : Value} {bs : List Bool} (h : Bls w B v bs) (hB : B' ≤ B) : Bls w B' v bs := by
  refine ⟨h.1, ?_⟩
  rcases h.2 with h | ⟨g, cap, cur, hv, hb, h⟩
  · exact .inl h
  · exact .inr ⟨g, cap, cur, hv, by omega, h⟩
/-- what lies below a world's size stays -/
theorem Bls.below {w w' : World} {B : Nat} {v : Value} {bs : List Bool} (h : Bls w B v bs) (hb : Below w.heap.size w w') : Bls w' B v bs := by
  refine ⟨h.1, ?_⟩
  rcases h.2 with h | ⟨g, cap, cur, hv, hB, hg, h⟩
  · exact .inl h
  · refine .inr ⟨g, cap, cur, hv, hB, ?_, h⟩
    have hlt : g < w.heap.size := by
      rcases Nat.lt_or_ge g w.heap.size with hl | hl
      · exact hl
      · rw [Array.getElem?_eq_none hl] at hg; cases hg
    rw [hb.block g hlt]; exact hg
theorem Bls.form {w : World} {B : Nat} {v : Value} {bs : List Bool} (h : Bls w B v bs) (hn : 0 < bs.length) :
    ∃ g cap, v = .slice (some ⟨g, 0, none⟩) bs.length cap ∧ B ≤ g ∧ g < w.heap.size ∧ bs.length ≤ cap ∧ cap ≤ maxLen ∧ ∀ j x, bs[j]? = some x → w.cell? ⟨g, j, none⟩ = some (.bool x) := by
  have h' := h
  rcases h.2 with ⟨_, h0⟩ | ⟨g, cap, cur, rfl, hB, hg, hnc, hcm, hs, ht⟩
  · omega
  · refine ⟨g, cap, rfl, hB, ?_, hnc, hcm, ?_⟩
    · rcases Nat.lt_or_ge g w.heap.size with hl | hl
      · exact hl
      · rw [Array.getElem?_eq_none hl] at hg; cases hg
    · intro j x hx
      have hj := (List.getElem?_eq_some_iff.1 hx).1
      rw [World.ownsRow.cellAt h' j (by omega)]
      simp [hx]

theorem ret_i64 {a b : Int} (h : a = b) : Ending.returned (.int .i64 a) = .returned (.int .i64 b) := by rw [h]
theorem pow16 : ∀ j : Fin 17, (1 : Int) ≤ 2 ^ j.val ∧ (2 : Int) ^ j.val ≤ 65536 := by decide
set_option maxHeartbeats 400000 in
theorem two_any (k : Nat) (hk : k ≤ 15) (w : World) :
    Calls Try.prog 37 #[.int .i64 (k : Int)] w fun e w' => e = .returned (.int .i64 (2 ^ k)) ∧ w' = w := by
  go_enter Try.func37, Try.ntmps37
  go_wp2
  go_loop [3, 5] (fun n i => ∃ (j : Nat) (p : Int), j ≤ k ∧ 1 ≤ p ∧ p ≤ 65536 ∧ i = .int .i64 j ∧ n = .int .i64 p ∧ Hid (p = 2 ^ j)) (fun _ i => k - (intOf i).toNat)
  case atStart => exact ⟨0, 1, Nat.zero_le _, by omega, by omega, rfl, rfl, rfl⟩
  case round =>
    obtain ⟨j, p, hj, h1, h2, rfl, rfl, HP⟩ := hrel
    by_cases hlt : j < k
    · have hb := pow16 ⟨j + 1, by omega⟩
      simp only [Int.pow_succ, ← HP.out] at hb
      go_wp2
      go_round
      case rel => exact ⟨j + 1, p * 2, by omega, hb.1, hb.2, by go_num, rfl, by show _ = _; rw [Int.pow_succ, HP.out]⟩
      case measure => simp [intOf]; omega
    · obtain rfl : j = k := by omega
      go_wp2
      go_ret
      exact ⟨ret_i64 HP.out, rfl⟩

set_option maxHeartbeats 1000000 in
theorem bitsOf_any (x n : Nat) (hx : x ≤ 65535) (hn : n ≤ 16) (w : World) :
    Calls Try.prog 32 #[.int .i64 (x : Int), .int .i64 (n : Int)] w fun e w' => ∃ v, e = .returned v ∧ Bls w' w.heap.size v (bitsB x n) ∧ Below w.heap.size w w' := by
  obtain ⟨i0, hi, hz0, hz1, hz2⟩ := info_parts info4
  go_enter Try.func32, Try.ntmps32
  go_wp2
  go_loopw [5, 8] (fun v i wr => ∃ (k : Nat) (acc : List Bool), k ≤ n ∧ acc.length = k ∧ i = .int .i64 (k : Int) ∧ Bls wr w.heap.size v acc ∧ Below w.heap.size w wr ∧ Hid (acc ++ (bitsB x n).drop k = bitsB x n))
    (fun _ i _ => n - (intOf i).toNat)
  case atStart => exact ⟨0, [], Nat.zero_le _, rfl, rfl, Bls.nil _ _, Below.refl _ _, rfl⟩
  case round =>
    obtain ⟨k, acc, hk, hl, rfl, hown, hbel, HR⟩ := hrel
    have hsz := hbel.size
    by_cases hlt : k < n
    · have HD : Hid ((acc ++ [(x / 2 ^ k % 2 == 1)]) ++ (bitsB x n).drop (k + 1) = bitsB x n) := by
        have h := HR.out
        rw [bitsB_drop x n k hlt] at h
        show _ = _
        rw [List.append_assoc]; exact h
      obtain ⟨p, hp1, hp2, hd, HTW⟩ : ∃ p : Int, 1 ≤ p ∧ p ≤ 65536 ∧ ((x : Int) / p % 2 == 1) = (x / 2 ^ k % 2 == 1) ∧ Hid (∀ w : World, Calls Try.prog 37 #[.int .i64 (k : Int)] w fun e w' => e = .returned (.int .i64 p) ∧ w = w') := by
        have pw := pow16 ⟨k, by omega⟩
        refine ⟨2 ^ k, pw.1, pw.2, ?_, fun w => (two_any k (by omega) w).mono fun e w' h => ⟨h.1, h.2.symm⟩⟩
        have e : (x : Int) / 2 ^ k % 2 = ((x / 2 ^ k % 2 : Nat) : Int) := by simp
        rw [e]
        generalize x / 2 ^ k % 2 = z
        rw [Bool.eq_iff_iff]
        simp only [beq_iff_eq]
        omega
      have ediv : 0 ≤ (x : Int) / p := Int.ediv_nonneg (by omega) (by omega)
      have edle : (x : Int) / p ≤ (x : Int) := Int.ediv_le_self _ (by omega)
      obtain ⟨y, hy⟩ : ∃ y, y = (x / 2 ^ k % 2 == 1) := ⟨_, rfl⟩
      rw [← hy] at hd HD
      have HO : Hid (Bls wr w.heap.size u5 acc) := hown
      clear HR hy hown
      subst hl
      go_wp2_with (first
        | (go_at_call 37; refine (HTW.out _).mono ?_; rintro e w' ⟨rfl, rfl⟩)
        | (at_builtin; (refine wpList_append_lies _ rfl _ _ 57 rfl w.heap.size 4 i0 _ 1 1 Try.underlying57 hi hz0 hz1 hz2 rfl (by omega) u5 acc.length (acc.map Value.bool) rfl (World.ownsRow.alloc HO.out _) ⟨wr.heap.size, 0, none⟩ 1 1 [.bool y] rfl rfl (World.news_of_block (cs := #[.bool y]) (t := 4) (fr := (0, 0)) (heap_alloc_new wr _)) (by simp [Value.oneCell']) (by omega) (by unfold maxLen; omega) (by omega) (by simp; omega) (wr.heap.size + 1) (by simp) ?_); intro g cap w1 hown1 hgrow hat hgl))
      go_wp2
      go_roundw
      case rel => exact ⟨acc.length + 1, acc ++ [y], by omega, by simp, by go_num, Bls.push hown1, (hbel.alloc hsz _).grown hgrow (by simp; omega) HO.out.block, HD⟩
      case measure => simp [intOf]; omega
    · obtain rfl : k = n := by omega
      go_wp2
      go_ret
      have h := HR.out
      rw [List.drop_eq_nil_of_le (by rw [bitsB_length]; omega), List.append_nil] at h
      exact ⟨_, rfl, by rw [← h]; exact hown, hbel⟩

set_option maxHeartbeats 1000000 in
theorem turnedNum_any (g off cap : Nat) (cs : List Bool) (hl : cs.length ≤ 16) (w : World) (hc : ∀ j x, cs[j]? = some x → w.cell? ⟨g, off + j, none⟩ = some (.bool x)) :
    Calls Try.prog 30 #[.slice (some ⟨g, off, none⟩) cs.length cap] w fun e w' => e = .returned (.int .i64 (vb (cs.map (! ·)) : Nat)) ∧ w = w' := by
  have HC : Hid (∀ j x, cs[j]? = some x → w.cell? ⟨g, off + j, none⟩ = some (.bool x)) := hc
  clear hc
  go_enter Try.func30, Try.ntmps30
  go_wp2
  go_loop [3, 8] (fun v i => ∃ (k x : Nat), k ≤ cs.length ∧ x ≤ 1048576 ∧ i = .int .i64 (k : Int) ∧ v = .int .i64 (x : Int) ∧ Hid (x + 2 ^ k * vb ((cs.map (! ·)).drop k) = vb (cs.map (! ·))))
    (fun _ i => cs.length - (intOf i).toNat)
  case atStart => exact ⟨0, 0, Nat.zero_le _, by omega, rfl, rfl, by show _ = _; simp⟩
  case round =>
    obtain ⟨k, x, hk, hx, rfl, rfl, HR⟩ := hrel
    by_cases hlt : k < cs.length
    · have hce := HC.out k cs[k] (List.getElem?_eq_getElem hlt)
      have hd : (cs.map (! ·)).drop k = (! cs[k]) :: (cs.map (! ·)).drop (k + 1) := by
        rw [List.drop_eq_getElem_cons (by rw [List.length_map]; exact hlt), List.getElem_map]
      obtain ⟨y, hy⟩ : ∃ y, y = cs[k] := ⟨_, rfl⟩
      rw [← hy] at hce hd
      have hq : x + 2 ^ k * (! y).toNat + 2 ^ (k + 1) * vb ((cs.map (! ·)).drop (k + 1)) = vb (cs.map (! ·)) := by
        have h := HR.out
        have e : 2 ^ k * (2 * vb ((cs.map (! ·)).drop (k + 1))) = 2 ^ (k + 1) * vb ((cs.map (! ·)).drop (k + 1)) := by rw [Nat.pow_succ, Nat.mul_assoc]
        rw [hd, vb, Nat.mul_add, e] at h
        omega
      obtain ⟨p, hp1, hp2, hpe, HTW⟩ : ∃ p : Nat, 1 ≤ p ∧ p ≤ 65536 ∧ p = 2 ^ k ∧ Hid (∀ w : World, Calls Try.prog 37 #[.int .i64 (k : Int)] w fun e w' => e = .returned (.int .i64 (p : Int)) ∧ w = w') := by
        have pw := pow16 ⟨k, by omega⟩
        simp only at pw
        have e : ((2 ^ k : Nat) : Int) = 2 ^ k := by simp
        refine ⟨2 ^ k, by omega, by omega, rfl, fun w => ?_⟩
        have h := two_any k (by omega) w
        rw [← e] at h
        exact h.mono fun e w' h => ⟨h.1, h.2.symm⟩
      rw [← hpe] at hq
      have hvl := vb_lt (cs.map (! ·))
      rw [List.length_map] at hvl
      have hv16 : 2 ^ cs.length ≤ 2 ^ 16 := Nat.pow_le_pow_right (by omega) hl
      have e16 : 2 ^ 16 = 65536 := rfl
      clear HR hy hd hpe
      cases y
      · have hx2 : x + p ≤ 65536 := by simp at hq; omega
        have HQ : Hid (x + p + 2 ^ (k + 1) * vb ((cs.map (! ·)).drop (k + 1)) = vb (cs.map (! ·))) := by show _ = _; simpa using hq
        clear hq hvl hv16 e16
        go_wp2_with (go_at_call 37; refine (HTW.out _).mono ?_; rintro e w' ⟨rfl, rfl⟩)
        go_round
        case rel => exact ⟨k + 1, x + p, by omega, by omega, by go_num, by go_num, HQ⟩
        case measure => simp [intOf]; omega
      · have HQ : Hid (x + 2 ^ (k + 1) * vb ((cs.map (! ·)).drop (k + 1)) = vb (cs.map (! ·))) := by show _ = _; simpa using hq
        clear hq hvl hv16 e16
        go_wp2
        go_round
        case rel => exact ⟨k + 1, x, by omega, hx, by go_num, rfl, HQ⟩
        case measure => simp [intOf]; omega
    · obtain rfl : k = cs.length := by omega
      go_wp2
      go_ret
      have h := HR.out
      rw [List.drop_eq_nil_of_le (by rw [List.length_map]; omega)] at h
      exact ⟨ret_i64 (by rw [← h]; simp [vb]), rfl⟩
end Go.Proofs.Ytepifjimfcnggaa.crc
