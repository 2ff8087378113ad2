/- plugref's lane: what Unstuff answers. -/
import Derived.Test.YtbkdalgmhmaofaaDoorLaneQ
import Derived.Deep.QuietTactic
import Derived.BigQuiet
namespace Go.Proofs.YtbkdalgmhmaofaaDoor.lane
open Go.RowKit Go.PlainAid

def strLen : Value → Nat
  | .string b => b.size
  | _ => 0

/-- what is left to do, and what was done -/
def Left (s ov rv : ByteArray) : Prop :=
  (unstuffL 0 (nums rv)).1 = (unstuffL 0 (nums s)).1 ∧ nums ov ++ (unstuffL 0 (nums rv)).2 = (unstuffL 0 (nums s)).2 ∧ rowB (nums rv) = true
theorem left_start (s : ByteArray) (h : rowB (nums s) = true) : Left s ⟨#[]⟩ s := ⟨rfl, rfl, h⟩
theorem left_miss {s ov rv : ByteArray} (h : Left s ov rv) (hi : Lib.indexB rv ⟨#[49, 49, 49, 49, 49, 49]⟩ = -1) :
    (unstuffL 0 (nums s)).1 = 0 ∧ ov ++ rv = strOfNums (unstuffS (nums s)) := by
  have hm := cut_miss rv.data.toList hi
  have hm' : unstuffL 0 (nums rv) = (0, nums rv) := hm
  obtain ⟨h1, h2, _⟩ := h
  rw [hm'] at h1 h2
  have hc : (unstuffL 0 (nums s)).1 = 0 := h1.symm
  refine ⟨hc, ?_⟩
  unfold unstuffS
  rw [if_pos hc, ← h2]
  show ov ++ rv = strOfNums (nums ov ++ nums rv)
  rw [← nums_append, str_nums]
theorem left_hit {s ov rv : ByteArray} {i : Nat} (h : Left s ov rv) (hi : Lib.indexB rv ⟨#[49, 49, 49, 49, 49, 49]⟩ = i) :
    (unstuffL 6 (nums (rv.extract (i + 6) rv.size))).1 = (unstuffL 0 (nums s)).1 ∧
    nums ov ++ (nums (rv.extract 0 i) ++ (un (ones 6) ++ (unstuffL 6 (nums (rv.extract (i + 6) rv.size))).2)) = (unstuffL 0 (nums s)).2 ∧
    rowB (nums (rv.extract (i + 6) rv.size)) = true ∧ (rv.extract 0 i).size + 6 + (rv.extract (i + 6) rv.size).size = rv.size := by
  obtain ⟨hl, hm⟩ := cut_hit rv.data.toList i hi
  have e1 : nums (rv.extract 0 i) = un (rv.data.toList.take i) := by rw [nums_un, Lib.extract_from_zero]
  have e2 : nums (rv.extract (i + 6) rv.size) = un (rv.data.toList.drop (i + 6)) := by rw [nums_un, Lib.extract_to_end]
  obtain ⟨h1, h2, h3⟩ := h
  have hm' : unstuffL 0 (nums rv) = _ := hm
  rw [hm'] at h1 h2
  rw [e1, e2]
  refine ⟨h1, h2, ?_, ?_⟩
  · have := rowB_drop (nums rv) (i + 6) h3
    unfold un
    rw [List.map_drop]
    exact this
  · have hz := congrArg List.length hl
    simp only [List.length_append, List.length_take, List.length_drop, ones_len] at hz
    have e : rv.data.toList.length = rv.size := by rw [Array.length_toList]; rfl
    rw [e] at hz
    rw [ByteArray.size_extract, ByteArray.size_extract]
    omega
theorem left_short {s bv : ByteArray} (h1 : (unstuffL 6 (nums bv)).1 = (unstuffL 0 (nums s)).1) (hz : bv.size = 0) : (unstuffL 0 (nums s)).1 = 3 ∧ unstuffS (nums s) = [] := by
  have : nums bv = [] := List.eq_nil_of_length_eq_zero (by rw [nums_length]; exact hz)
  rw [this] at h1
  have hc : (unstuffL 0 (nums s)).1 = 3 := h1.symm
  exact ⟨hc, by unfold unstuffS; rw [hc]; rfl⟩
theorem nums_cons (bv : ByteArray) (h : 1 ≤ bv.size) : nums bv = bt bv 0 :: nums (bv.extract 1 bv.size) := by
  have := drop_nums bv 0 (by omega)
  rw [List.drop_zero] at this
  rw [this]
  congr 1
  rw [nums_extract, List.take_of_length_le (by rw [nums_length]; omega)]
theorem left_bad {s bv : ByteArray} (h1 : (unstuffL 6 (nums bv)).1 = (unstuffL 0 (nums s)).1) (hz : 1 ≤ bv.size) (hx : bt bv 0 = 49) : (unstuffL 0 (nums s)).1 = 6 ∧ unstuffS (nums s) = [] := by
  rw [nums_cons bv hz, hx, unstuffL_bad] at h1
  have hc : (unstuffL 0 (nums s)).1 = 6 := h1.symm
  exact ⟨hc, by unfold unstuffS; rw [hc]; rfl⟩
theorem left_next {s ov av bv : ByteArray} (h1 : (unstuffL 6 (nums bv)).1 = (unstuffL 0 (nums s)).1)
    (h2 : nums ov ++ (nums av ++ (un (ones 6) ++ (unstuffL 6 (nums bv)).2)) = (unstuffL 0 (nums s)).2) (h3 : rowB (nums bv) = true) (hz : 1 ≤ bv.size) (hx : ¬ bt bv 0 = 49) :
    Left s (ov ++ av ++ ⟨#[49, 49, 49, 49, 49, 49]⟩) (bv.extract 1 bv.size) := by
  rw [nums_cons bv hz] at h1 h2 h3
  rw [unstuffL_out _ _ hx] at h1 h2
  refine ⟨h1, ?_, (row_cases h3).2⟩
  rw [nums_append, nums_append]
  have e : nums ⟨#[49, 49, 49, 49, 49, 49]⟩ = un (ones 6) := rfl
  rw [e, List.append_assoc, List.append_assoc]
  exact h2

set_option maxHeartbeats 1000000 in
theorem runstuff_ok (s : ByteArray) (w : World) (m : Int) (hm : w.cell? ⟨0, 0, none⟩ = some (.int .i64 m)) (hs : s.size ≤ 1048576) (hr : rowB (nums s) = true) :
    Calls Tryd.prog 42 #[.string s] w fun e w' => e = .returned (.tuple #[.string (strOfNums (unstuffS (nums s))), .int .i64 (unstuffL 0 (nums s)).1]) ∧ Below w.heap.size w w' := by
  have HS : Hid (Left s ⟨#[]⟩ s) := left_start s hr
  go_enter Tryd.func42, Tryd.ntmps42
  go_wp2_with (go_at_call 19; refine (only_row _ _ (by unfold maxLen; omega)).mono ?_; rintro e w' ⟨rfl, rfl⟩)
  clear hr
  go_loopw [4, 0] (fun o r wr => ∃ (ov rv : ByteArray) (q : Nat), o = .string ov ∧ r = .string rv ∧ ov.size + rv.size ≤ s.size ∧ wr = w.drewN q ∧ Hid (Left s ov rv))
    (fun _ r _ => strLen r)
  case atStart => exact ⟨⟨#[]⟩, s, 0, rfl, rfl, by show 0 + s.size ≤ s.size; omega, rfl, HS.out⟩
  case round =>
    obtain ⟨ov, rv, q, rfl, rfl, hz, rfl, HL⟩ := hrel
    have hcut := Tryd.strings_Cut rv ⟨#[49, 49, 49, 49, 49, 49]⟩ m (w.drewN q) (by omega) hm
    clear HS
    rcases Lib.indexB_cases rv ⟨#[49, 49, 49, 49, 49, 49]⟩ with hi | ⟨i, hi, _⟩
    · obtain ⟨c1, c2, c3⟩ := Lib.cutB_miss rv ⟨#[49, 49, 49, 49, 49, 49]⟩ hi
      rw [c1, c2, c3] at hcut
      obtain ⟨hc, ho⟩ := left_miss HL.out hi
      have HO : Hid (ov ++ rv = strOfNums (unstuffS (nums s))) := ho
      have HCD : Hid ((unstuffL 0 (nums s)).1 = 0) := hc
      have HC : Hid (Calls Tryd.prog 58 #[.string rv, .string ⟨#[49, 49, 49, 49, 49, 49]⟩] (w.drewN q) fun e w' => e = .returned (.tuple #[.string rv, .string ByteArray.empty, .bool false]) ∧ ∃ n, w' = (w.drewN q).drewN n) := hcut
      clear c1 c2 c3 hcut hi HL hc ho
      go_wp2_with fail
      refine HC.out.mono ?_
      rintro e w2 ⟨rfl, n, rfl⟩
      go_wp2
      go_ret2
      rw [HO.out, HCD.out]
      exact ⟨rfl, below_drewN (Below.refl _ _) _⟩
    · obtain ⟨c1, c2, c3⟩ := Lib.cutB_hit rv ⟨#[49, 49, 49, 49, 49, 49]⟩ i hi
      rw [c1, c2, c3] at hcut
      obtain ⟨l1, l2, l3, l4⟩ := left_hit HL.out hi
      have e6 : (⟨#[49, 49, 49, 49, 49, 49]⟩ : ByteArray).size = 6 := rfl
      rw [e6] at hcut
      obtain ⟨av, hav⟩ : ∃ av, rv.extract 0 i = av := ⟨_, rfl⟩
      obtain ⟨bv, hbv⟩ : ∃ bv, rv.extract (i + 6) rv.size = bv := ⟨_, rfl⟩
      rw [hav, hbv] at hcut l2 l4
      rw [hbv] at l1 l3
      have HC : Hid (Calls Tryd.prog 58 #[.string rv, .string ⟨#[49, 49, 49, 49, 49, 49]⟩] (w.drewN q) fun e w' => e = .returned (.tuple #[.string av, .string bv, .bool true]) ∧ ∃ n, w' = (w.drewN q).drewN n) := hcut
      have L1 : Hid ((unstuffL 6 (nums bv)).1 = (unstuffL 0 (nums s)).1) := l1
      have L2 : Hid (nums ov ++ (nums av ++ (un (ones 6) ++ (unstuffL 6 (nums bv)).2)) = (unstuffL 0 (nums s)).2) := l2
      have L3 : Hid (rowB (nums bv) = true) := l3
      have z1 : av.size + 6 + bv.size ≤ rv.size := by omega
      have hbb := get_bt bv
      clear c1 c2 c3 hcut hi HL l1 l2 l3 l4 hav hbv e6
      by_cases hb0 : bv.size = 0
      · obtain ⟨hc, ho⟩ := left_short L1.out hb0
        have HO : Hid (unstuffS (nums s) = []) := ho
        have HCD : Hid ((unstuffL 0 (nums s)).1 = 3) := hc
        obtain rfl : bv = ⟨#[]⟩ := by
          apply ByteArray.ext
          exact Array.eq_empty_of_size_eq_zero hb0
        clear hc ho hb0 L1 L2 L3 hbb
        go_wp2_with fail
        refine HC.out.mono ?_
        rintro e w2 ⟨rfl, n, rfl⟩
        go_wp2
        go_ret2
        exact ⟨ret_two (a := []) (c := 3) HO.out.symm HCD.out.symm, below_drewN (Below.refl _ _) _⟩
      · have hb1 : 1 ≤ bv.size := by omega
        have hfull := str_full bv (by omega)
        clear hb0
        by_cases hx : bt bv 0 = 49
        · obtain ⟨hc, ho⟩ := left_bad L1.out hb1 hx
          have HO : Hid (unstuffS (nums s) = []) := ho
          have HCD : Hid ((unstuffL 0 (nums s)).1 = 6) := hc
          have e49 : (bt bv 0 == 49) = true := by simpa using hx
          clear hc ho L1 L2 L3 hx
          go_wp2_with fail
          refine HC.out.mono ?_
          rintro e w2 ⟨rfl, n, rfl⟩
          go_wp2
          go_ret2
          exact ⟨ret_two (a := []) (c := 6) HO.out.symm HCD.out.symm, below_drewN (Below.refl _ _) _⟩
        · have HN : Hid (Left s (ov ++ av ++ ⟨#[49, 49, 49, 49, 49, 49]⟩) (bv.extract 1 bv.size)) := left_next L1.out L2.out L3.out hb1 hx
          have e49 : (bt bv 0 == 49) = false := by simpa using hx
          have za : (ov ++ av).size = ov.size + av.size := ByteArray.size_append
          clear L1 L2 L3 hx
          go_wp2_with fail
          refine HC.out.mono ?_
          rintro e w2 ⟨rfl, n, rfl⟩
          go_wp2
          go_quiet (fail)
          go_wp2
          go_roundw
          case rel => exact ⟨ov ++ av ++ ⟨#[49, 49, 49, 49, 49, 49]⟩, bv.extract 1 bv.size, q + n + nq, rfl, rfl, by rw [ByteArray.size_append, za, ByteArray.size_extract]; show ov.size + av.size + 6 + _ ≤ _; omega, by rw [World.drewN_drewN], HN⟩
          case measure => simp [strLen]; omega
end Go.Proofs.YtbkdalgmhmaofaaDoor.lane
