/- utf: what frontUnit, isFirst, isSecond and frontRune answer. -/
import Derived.Test.YtebaepkghbihkaaRows
import Derived.Test.YtebaepkghbihkaaUtfM
import Derived.WalkKit
import Derived.Handy
import Derived.Below
import Derived.WalkSpells
namespace Go.Proofs.Ytebaepkghbihkaa.utf
open Go.RowKit Go.PlainAid Go.Lib Go.Proofs.Ytebaepkghbihkaa.lane

def secB (u : Int) : Bool := decide (56320 ≤ u ∧ u ≤ 57343)
def firB (u : Int) : Bool := decide (55296 ≤ u ∧ u ≤ 56319)
theorem ret_b {a b : Bool} (h : a = b) : Ending.returned (.bool a) = .returned (.bool b) := by rw [h]
theorem isSecond_any (u : Int) (w : World) : Calls Try.prog 96 #[.int .i32 u] w fun e w' => e = .returned (.bool (secB u)) ∧ w = w' := by
  by_cases h : 56320 ≤ u
  · go_enter Try.func96, Try.ntmps96
    go_wp2
    go_ret
    exact ⟨ret_b (by simp [secB, h]), rfl⟩
  · go_enter Try.func96, Try.ntmps96
    go_wp2
    go_ret
    exact ⟨ret_b (by simp [secB]; omega), rfl⟩
theorem isFirst_any (u : Int) (w : World) : Calls Try.prog 97 #[.int .i32 u] w fun e w' => e = .returned (.bool (firB u)) ∧ w = w' := by
  by_cases h : 55296 ≤ u
  · go_enter Try.func97, Try.ntmps97
    go_wp2
    go_ret
    exact ⟨ret_b (by simp [firB, h]), rfl⟩
  · go_enter Try.func97, Try.ntmps97
    go_wp2
    go_ret
    exact ⟨ret_b (by simp [firB]; omega), rfl⟩
theorem bt_bounds (s : ByteArray) (k : Nat) : 0 ≤ bt s k ∧ bt s k ≤ 255 := by
  unfold bt
  split
  · rename_i h
    have := (s[k]'h).toNat_lt
    omega
  · omega
theorem ret_i {a b : Int} (h : a = b) : Ending.returned (.int .i32 a) = .returned (.int .i32 b) := by rw [h]
theorem frontUnit_any (t : ByteArray) (w : World) (h : 2 ≤ t.size) : Calls Try.prog 95 #[.string t] w fun e w' => e = .returned (.int .i32 (bt t 0 + 256 * bt t 1)) ∧ Below w.heap.size w w' := by
  have hb := get_bt t
  have b0 := bt_bounds t 0
  have b1 := bt_bounds t 1
  have h0 : 0 < t.size := by omega
  have h1 : 1 < t.size := by omega
  go_enter Try.func95, Try.ntmps95
  go_wp2
  go_region
  go_wp2
  go_ret
  exact ⟨ret_i (by omega), (Below.refl _ _).drew⟩

theorem nums_two (t : ByteArray) (h : 2 ≤ t.size) : nums t = bt t 0 :: bt t 1 :: (nums t).drop 2 := by
  have e0 := drop_nums t 0 (by omega)
  have e1 := drop_nums t 1 (by omega)
  rw [List.drop_zero] at e0
  rw [e0, e1]
  simp
theorem nums_four (t : ByteArray) (h : 4 ≤ t.size) : nums t = bt t 0 :: bt t 1 :: bt t 2 :: bt t 3 :: (nums t).drop 4 := by
  have e2 := drop_nums t 2 (by omega)
  have e3 := drop_nums t 3 (by omega)
  have e := nums_two t (by omega)
  rw [e2, e3] at e
  exact e
def unitA (t : ByteArray) : Int := bt t 0 + 256 * bt t 1
theorem unitA_bounds (t : ByteArray) : 0 ≤ unitA t ∧ unitA t ≤ 65535 := by
  have := bt_bounds t 0; have := bt_bounds t 1; unfold unitA; omega
theorem frL_short (t : ByteArray) (h : t.size = 2) : frL (nums t) = (loneU (unitA t), 2) := by
  rw [nums_two t (by omega), List.drop_eq_nil_of_le (by rw [nums_length]; omega)]; rfl
theorem bt_extract (t : ByteArray) (k j : Nat) (h : k + j < t.size) : bt (t.extract k t.size) j = bt t (k + j) := by
  have hs : (t.extract k t.size).size = t.size - k := by rw [ByteArray.size_extract]; omega
  rw [bt_nums _ j (by rw [hs]; omega), bt_nums t (k + j) h, nums_extract, List.take_of_length_le (by rw [nums_length]; omega)]
  simp [List.getD, List.getElem?_drop]
theorem frL_long (t : ByteArray) (h : 4 ≤ t.size) : frL (nums t) = if isPair (unitA t) (unitA (t.extract 2 t.size)) then (pairR (unitA t) (unitA (t.extract 2 t.size)), 4) else (loneU (unitA t), 2) := by
  have e : unitA (t.extract 2 t.size) = bt t 2 + 256 * bt t 3 := by
    unfold unitA; rw [bt_extract t 2 0 (by omega), bt_extract t 2 1 (by omega)]
  rw [e, nums_four t h]; rfl
theorem frL_any (t : ByteArray) (h : 2 ≤ t.size) (he : t.size % 2 = 0) (hn : ¬ (55296 ≤ unitA t ∧ unitA t ≤ 56319)) : frL (nums t) = (loneU (unitA t), 2) := by
  by_cases h4 : 4 ≤ t.size
  · rw [frL_long t h4, if_neg (fun hp => hn hp.1)]
  · exact frL_short t (by omega)
theorem ret_fr {a b : Int} {n m : Int} (h : a = b) (h2 : n = m) : Ending.returned (.tuple #[.int .i32 a, .int .i64 n]) = .returned (.tuple #[.int .i32 b, .int .i64 m]) := by rw [h, h2]
theorem frontUnit_A (t : ByteArray) (w : World) (h : 2 ≤ t.size) (u : Int) (hu : unitA t = u) : Calls Try.prog 95 #[.string t] w fun e w' => e = .returned (.int .i32 u) ∧ Below w.heap.size w w' := by
  subst hu; exact frontUnit_any t w h

set_option maxHeartbeats 1000000 in
theorem frontRune_any (t : ByteArray) (w : World) (h : 2 ≤ t.size) (he : t.size % 2 = 0) :
    Calls Try.prog 74 #[.string t] w fun e w' => e = .returned (.tuple #[.int .i32 (frL (nums t)).1, .int .i64 ((frL (nums t)).2 : Nat)]) ∧ Below w.heap.size w w' := by
  obtain ⟨u, hu⟩ : ∃ u, unitA t = u := ⟨_, rfl⟩
  have hub := unitA_bounds t
  rw [hu] at hub
  by_cases hs : 56320 ≤ u ∧ u ≤ 57343
  · have hsb : secB u = true := by simp [secB, hs]
    have hfr : frL (nums t) = (65533, 2) := by rw [frL_any t h he (by rw [hu]; omega), hu]; simp [loneU]; omega
    rw [hfr]
    clear hs hub hfr
    go_enter Try.func74, Try.ntmps74
    go_wp2_with (first
      | (go_at_call 95; refine (frontUnit_A t _ h u hu).mono ?_; rintro e w1 ⟨rfl, hb1⟩)
      | (go_at_call 96; refine (isSecond_any u _).mono ?_; rintro e w' ⟨rfl, rfl⟩))
    go_ret2
    exact ⟨rfl, hb1⟩
  · have hsb : secB u = false := by simp [secB]; omega
    by_cases hf : 55296 ≤ u ∧ u ≤ 56319
    · have hfb : firB u = true := by simp [firB, hf]
      by_cases h4 : 4 ≤ t.size
      · obtain ⟨v, hv⟩ : ∃ v, unitA (t.extract 2 t.size) = v := ⟨_, rfl⟩
        have hvb := unitA_bounds (t.extract 2 t.size)
        rw [hv] at hvb
        have hxs : (t.extract 2 t.size).size = t.size - 2 := by rw [ByteArray.size_extract]; omega
        obtain ⟨t2, ht2⟩ : ∃ t2, t.extract 2 t.size = t2 := ⟨_, rfl⟩
        rw [ht2] at hv hxs
        have hfr := frL_long t h4
        rw [hu, ht2, hv] at hfr
        have hx2 : 2 ≤ t2.size := by omega
        have hne : t2.toList.isEmpty = false := str_full t2 (by omega)
        by_cases hs2 : 56320 ≤ v ∧ v ≤ 57343
        · have hsb2 : secB v = true := by simp [secB, hs2]
          rw [if_pos ⟨hf, hs2⟩] at hfr
          rw [hfr]
          clear hfr
          go_enter Try.func74, Try.ntmps74
          go_wp2_with fail
          refine (frontUnit_A t _ h u hu).mono ?_
          rintro e w1 ⟨rfl, hb1⟩
          go_wp2_with (first
            | (go_at_call 96; refine (isSecond_any u _).mono ?_; rintro e w' ⟨rfl, rfl⟩)
            | (go_at_call 97; refine (isFirst_any u _).mono ?_; rintro e w' ⟨rfl, rfl⟩))
          refine (frontUnit_A t2 _ hx2 v hv).mono ?_
          rintro e w2 ⟨rfl, hb2⟩
          go_wp2_with fail
          refine (isSecond_any v _).mono ?_
          rintro e w' ⟨rfl, rfl⟩
          go_wp2_with fail
          refine (frontUnit_A t2 _ hx2 v hv).mono ?_
          rintro e w3 ⟨rfl, hb3⟩
          go_wp2
          go_ret2
          exact ⟨ret_fr (by unfold pairR; omega) rfl, (hb1.trans (hb2.mono hb1.size)).trans (hb3.mono (by have := hb1.size; have := hb2.size; omega))⟩
        · have hsb2 : secB v = false := by simp [secB]; omega
          rw [if_neg (fun hp => hs2 hp.2)] at hfr
          have hlo : loneU u = 65533 := by unfold loneU; rw [if_pos (by omega)]
          rw [hlo] at hfr
          rw [hfr]
          clear hfr
          go_enter Try.func74, Try.ntmps74
          go_wp2_with fail
          refine (frontUnit_A t _ h u hu).mono ?_
          rintro e w1 ⟨rfl, hb1⟩
          go_wp2_with (first
            | (go_at_call 96; refine (isSecond_any u _).mono ?_; rintro e w' ⟨rfl, rfl⟩)
            | (go_at_call 97; refine (isFirst_any u _).mono ?_; rintro e w' ⟨rfl, rfl⟩))
          refine (frontUnit_A t2 _ hx2 v hv).mono ?_
          rintro e w2 ⟨rfl, hb2⟩
          go_wp2_with fail
          refine (isSecond_any v _).mono ?_
          rintro e w' ⟨rfl, rfl⟩
          go_wp2
          go_ret2
          exact ⟨rfl, hb1.trans (hb2.mono hb1.size)⟩
      · have hfr := frL_short t (by omega)
        have hlo : loneU u = 65533 := by unfold loneU; rw [if_pos (by omega)]
        rw [hu, hlo] at hfr
        rw [hfr]
        have hx0 : t.extract 2 t.size = ⟨#[]⟩ := by
          apply ByteArray.ext
          apply Array.ext'
          apply List.eq_nil_of_length_eq_zero
          rw [← size_eq, ByteArray.size_extract]; omega
        clear hfr
        go_enter Try.func74, Try.ntmps74
        go_wp2_with fail
        refine (frontUnit_A t _ h u hu).mono ?_
        rintro e w1 ⟨rfl, hb1⟩
        go_wp2_with (first
          | (go_at_call 96; refine (isSecond_any u _).mono ?_; rintro e w' ⟨rfl, rfl⟩)
          | (go_at_call 97; refine (isFirst_any u _).mono ?_; rintro e w' ⟨rfl, rfl⟩))
        go_ret2
        exact ⟨rfl, hb1⟩
    · have hfb : firB u = false := by simp [firB]; omega
      have hfr : frL (nums t) = (u, 2) := by rw [frL_any t h he (by rw [hu]; omega), hu]; simp [loneU]; omega
      rw [hfr]
      clear hs hf hfr
      go_enter Try.func74, Try.ntmps74
      go_wp2_with (first
        | (go_at_call 95; refine (frontUnit_A t _ h u hu).mono ?_; rintro e w1 ⟨rfl, hb1⟩)
        | (go_at_call 96; refine (isSecond_any u _).mono ?_; rintro e w' ⟨rfl, rfl⟩)
        | (go_at_call 97; refine (isFirst_any u _).mono ?_; rintro e w' ⟨rfl, rfl⟩))
      go_ret2
      exact ⟨rfl, hb1⟩
end Go.Proofs.Ytebaepkghbihkaa.utf
