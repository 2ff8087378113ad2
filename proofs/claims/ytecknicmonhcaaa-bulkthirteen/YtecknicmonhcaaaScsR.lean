/- plugref: Between, Two, High, Contains, mask, DiskRight, Made. -/
import Derived.Test.YtecknicmonhcaaaScsB
namespace Go.Proofs.Ytecknicmonhcaaa.scsi
open Go.RowKit Go.PlainAid Go.Proofs.Ytecknicmonhcaaa.lane Go.Proofs.Ytecknicmonhcaaa.pipe Go.Proofs.Ytecknicmonhcaaa.strike
set_option linter.unusedVariables false
set_option linter.unusedSimpArgs false
set_option maxRecDepth 100000

theorem between_any (a b c : Int) (w : World) : Calls Try.prog 28 #[.int .i64 a, .int .i64 b, .int .i64 c] w fun e w' => e = .returned (.bool (decide (b ≤ a) && decide (a ≤ c))) ∧ w = w' := by
  cases h1 : decide (b ≤ a) <;> cases h2 : decide (a ≤ c) <;> (go_enter Try.func28, Try.ntmps28; go_wp2; go_ret; exact ⟨rfl, rfl⟩)
theorem pow_bd : ∀ j : Fin 33, (1 : Int) ≤ 2 ^ j.val ∧ (2 : Int) ^ j.val ≤ 4294967296 := by decide
theorem ret_i64 {a b : Int} (h : a = b) : Ending.returned (.int .i64 a) = .returned (.int .i64 b) := by rw [h]
theorem two_any (k : Nat) (hk : k ≤ 32) (w : World) :
    Calls Try.prog 47 #[.int .i64 (k : Int)] w fun e w' => e = .returned (.int .i64 (2 ^ k)) ∧ w = w' := by
  go_enter Try.func47, Try.ntmps47
  go_wp2
  go_loop [3, 5] (fun n i => ∃ (j : Nat) (p : Int), j ≤ k ∧ 1 ≤ p ∧ p ≤ 4294967296 ∧ i = .int .i64 j ∧ n = .int .i64 p ∧ Hid (p = 2 ^ j)) (fun _ i => k - (intOf i).toNat)
  case atStart => exact ⟨0, 1, Nat.zero_le _, by omega, by omega, rfl, rfl, rfl⟩
  case round =>
    obtain ⟨j, p, hj, h1, h2, rfl, rfl, HP⟩ := hrel
    by_cases hlt : j < k
    · have hb := pow_bd ⟨j + 1, by omega⟩
      simp only [Int.pow_succ, ← HP.out] at hb
      go_wp2
      go_round
      case rel => exact ⟨j + 1, p * 2, by omega, hb.1, hb.2, by go_num, rfl, by show _ = _; rw [Int.pow_succ, HP.out]⟩
      case measure => simp [intOf]; omega
    · obtain rfl : j = k := by omega
      go_wp2
      go_ret
      exact ⟨ret_i64 HP.out, rfl⟩
/-- the low m bytes of a number, the highest first -/
def hiL (x : Int) : Nat → List Int
  | 0 => []
  | m + 1 => hiL (x / 256) m ++ [x % 256]
theorem hi_one (x : Int) (h0 : 0 ≤ x) (h1 : x ≤ 255) : hiL x 1 = [x] := by simp [hiL]; omega
theorem hi_two (x : Int) : hiL x 2 = be2 x := by simp [hiL, be2]
theorem hi_four (x : Int) : hiL x 4 = be4 x := by simp [hiL, be4, Int.ediv_ediv_of_nonneg]
theorem hi_len (m : Nat) : ∀ x, (hiL x m).length = m := by
  induction m with
  | zero => intro x; rfl
  | succ m ih => intro x; simp [hiL, ih]
set_option maxHeartbeats 2000000 in
theorem high_any (x : Int) (m : Nat) (hm : m ≤ 4) (h0 : 0 ≤ x) (h1 : x ≤ 4294967295) (w : World) : Calls Try.prog 65 #[.int .i64 x, .int .i64 (m : Int)] w fun e w' => e = .returned (.string (strOfNums (hiL x m))) ∧ Below w.heap.size w w' := by
  obtain ⟨z, hz⟩ : ∃ z, strOfNums (hiL x m) = z := ⟨_, rfl⟩
  have HZ : Hid (strOfNums (hiL x m) = z) := hz
  rw [hz]
  clear hz
  go_enter Try.func65, Try.ntmps65
  go_wp2
  go_loopw [0, 5, 7] (fun xv sv iv wr => ∃ (k : Nat) (c : Int) (tl : List Int), k ≤ m ∧ iv = .int .i64 (k : Int) ∧ xv = .int .i64 c ∧ 0 ≤ c ∧ c ≤ 4294967295 ∧ sv = .string (strOfNums tl) ∧ Hid (Below w.heap.size w wr ∧ strOfNums (hiL c (m - k) ++ tl) = z ∧ tl.length = k)) (fun _ _ iv _ => m - (intOf iv).toNat)
  case atStart => exact ⟨0, x, [], Nat.zero_le _, rfl, rfl, h0, h1, rfl, Below.refl _ _, by rw [List.append_nil]; exact HZ.out, rfl⟩
  case round =>
    obtain ⟨k, c, tl, hk, rfl, rfl, c0, c1, rfl, HR⟩ := hrel
    clear HZ h0 h1
    by_cases hlt : ¬ k < m
    · obtain rfl : k = m := by omega
      have HE : Hid (strOfNums tl = z ∧ Below w.heap.size w wr) := by
        have := HR.out.2.1
        rw [Nat.sub_self] at this
        exact ⟨this, HR.out.1⟩
      clear HR
      go_wp2
      go_ret
      rw [← HE.out.1]
      exact ⟨rfl, HE.out.2⟩
    · have hlt : k < m := Classical.not_not.1 hlt
      obtain ⟨w1, hw1, hcv, hb⟩ := bytes_named wr [c % 256] _ rfl
      have HS : Hid (Below w.heap.size w w1 ∧ strOfNums (hiL (c / 256) (m - (k + 1)) ++ (c % 256 :: tl)) = z ∧ (c % 256 :: tl).length = k + 1) := by
        refine ⟨bsq HR.out.1 hb, ?_, by rw [List.length_cons, HR.out.2.2]⟩
        have := HR.out.2.1
        rw [show m - k = (m - (k + 1)) + 1 by omega, hiL, List.append_assoc] at this
        exact this
      have ht : (strOfNums tl).size = k := (str_size tl).trans HR.out.2.2
      have h1s : (strOfNums [c % 256]).size = 1 := str_size _
      have HJ : Hid (strOfNums [c % 256] ++ strOfNums tl = strOfNums (c % 256 :: tl)) := by show _ = _; rw [← str_append]; rfl
      have hk4 : k ≤ 4 := by omega
      clear HR hb
      simp only [List.map_cons, List.map_nil, List.length_cons, List.length_nil] at hw1 hcv
      generalize strOfNums [c % 256] = s1 at *
      generalize strOfNums tl = s2 at *
      go_wp2
      go_roundw
      case rel => exact ⟨k + 1, c / 256, c % 256 :: tl, by omega, by go_num, rfl, by omega, by omega, by rw [HJ.out], HS.out⟩
      case measure => simp [intOf]; omega
/-- a slice that reads as these numbers -/
def Ixs (w : World) (v : Value) (l : List Int) : Prop := ∃ a c, v = .slice a l.length c ∧ l.length ≤ c ∧ c ≤ maxLen ∧ ∀ j x, l[j]? = some x → ∃ g off, a = some ⟨g, off, none⟩ ∧ w.cell? ⟨g, off + j, none⟩ = some (.int .i64 x)
theorem ixs_laid (w : World) (l : List Int) (h : l.length ≤ 1000) : Ixs (w.alloc (.cells (l.map (Value.int .i64)).toArray 3)) (.slice (some ⟨w.heap.size, 0, none⟩) l.length l.length) l := by
  refine ⟨_, _, rfl, Nat.le_refl _, by unfold maxLen; omega, fun j x hx => ⟨_, _, rfl, ?_⟩⟩
  rw [Nat.zero_add, cell_of_row _ _ _ _ _ (0, 0) (MapKept.heap_alloc w _).1]
  simp [hx]
theorem mem_at {l : List Int} {k : Nat} {x y : Int} (h : l[k]? = some y) : (x ∈ l.drop k) ↔ x = y ∨ x ∈ l.drop (k + 1) := by
  have hk := (List.getElem?_eq_some_iff.1 h).1
  rw [List.drop_eq_getElem_cons hk, (List.getElem?_eq_some_iff.1 h).2, List.mem_cons]
set_option maxHeartbeats 2000000 in
theorem index_any (v : Value) (l : List Int) (x : Int) (w : World) (hv : Ixs w v l) (hl : l.length ≤ 1000) : Calls Try.prog 81 #[v, .int .i64 x] w fun e w' => (∃ r : Int, e = .returned (.int .i64 r) ∧ (0 ≤ r ↔ x ∈ l)) ∧ w = w' := by
  obtain ⟨a, c, rfl, hlc, hcm, hc⟩ := hv
  obtain ⟨n, hn⟩ : ∃ n, l.length = n := ⟨_, rfl⟩
  have HN : Hid (l.length = n) := hn
  rw [hn] at hlc hl ⊢
  have HR : Hid (∀ j x, l[j]? = some x → ∃ g off, a = some ⟨g, off, none⟩ ∧ w.cell? ⟨g, off + j, none⟩ = some (.int .i64 x)) := hc
  obtain ⟨P, hP⟩ : ∃ P : Prop, P = (x ∈ l) := ⟨_, rfl⟩
  have HP : Hid (x ∈ l ↔ P) := by show _ ↔ _; rw [hP]
  rw [← hP]
  unfold maxLen at hcm
  clear hc hn hP
  go_enter Try.func81, Try.ntmps81
  go_wp2
  go_loopw [5, 8] (fun _ i wr => ∃ k : Nat, k ≤ n ∧ i = .int .i64 (k : Int) ∧ w = wr ∧ Hid (x ∈ l.drop k ↔ P)) (fun _ i _ => n - (intOf i).toNat)
  case atStart => exact ⟨0, Nat.zero_le _, rfl, rfl, HP.out⟩
  case round =>
    obtain ⟨k, hk, rfl, rfl, HA⟩ := hrel
    by_cases hlt : ¬ k < n
    · have HQ : Hid (¬ P) := by
        have := HA.out
        rw [List.drop_eq_nil_of_le (by have := HN.out; omega)] at this
        exact fun h => by simpa using this.2 h
      clear HA HP
      go_wp2
      go_ret
      exact ⟨⟨_, rfl, ⟨fun h => by omega, fun h => absurd h HQ.out⟩⟩, rfl⟩
    have hlt : k < n := by omega
    have hkL : k < l.length := by have := HN.out; omega
    obtain ⟨y, hy⟩ : ∃ y, l[k]? = some y := ⟨l[k], List.getElem?_eq_getElem hkL⟩
    obtain ⟨g, off, rfl, hcell⟩ := HR.out k y hy
    have HA2 : Hid ((x = y ∨ x ∈ l.drop (k + 1)) ↔ P) := by have := HA.out; rw [mem_at hy] at this; exact this
    clear HA hy hkL
    by_cases hxy : x = y
    · have HQ : Hid P := HA2.out.1 (.inl hxy)
      have e1 : (x == y) = true := by simpa using hxy
      clear HA2 hxy HP
      go_wp2
      go_ret
      exact ⟨⟨_, rfl, ⟨fun _ => HQ.out, fun _ => by omega⟩⟩, rfl⟩
    · have HQ : Hid (x ∈ l.drop (k + 1) ↔ P) := ⟨fun h => HA2.out.1 (.inr h), fun h => by rcases HA2.out.2 h with q | q; exact absurd q hxy; exact q⟩
      have e1 : (x == y) = false := by simpa using hxy
      clear HA2 hxy HP
      go_wp2
      go_roundw
      case rel => exact ⟨k + 1, by omega, by go_num, trivial, HQ.out⟩
      case measure => simp [intOf]; omega
theorem contains_any (v : Value) (l : List Int) (x : Int) (w : World) (hv : Ixs w v l) (hl : l.length ≤ 1000) : Calls Try.prog 62 #[v, .int .i64 x] w fun e w' => e = .returned (.bool (decide (x ∈ l))) ∧ w = w' := by
  have HI : Hid (Calls Try.prog 81 #[v, .int .i64 x] w fun e w' => (∃ r : Int, e = .returned (.int .i64 r) ∧ (0 ≤ r ↔ x ∈ l)) ∧ w = w') := index_any v l x w hv hl
  obtain ⟨d, hd⟩ : ∃ d, decide (x ∈ l) = d := ⟨_, rfl⟩
  have HD : Hid (∀ r : Int, (0 ≤ r ↔ x ∈ l) → decide (0 ≤ r) = d) := fun r hr => by rw [← hd]; exact decide_eq_decide.2 hr
  obtain ⟨a, c, rfl, _, _, _⟩ := hv
  rw [hd]
  generalize l.length = n at *
  clear hd hl
  go_enter Try.func62, Try.ntmps62
  go_wp2_with fail
  refine (HI.out).mono ?_
  rintro e u ⟨⟨r, rfl, hr⟩, rfl⟩
  have e1 := HD.out r hr
  clear hr
  go_wp2
  go_ret
  exact ⟨rfl, rfl⟩
end Go.Proofs.Ytecknicmonhcaaa.scsi
