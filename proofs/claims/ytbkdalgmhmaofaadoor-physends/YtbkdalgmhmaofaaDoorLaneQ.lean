/- plugref's lane: what Stuff and Unstuff answer. -/
import Derived.Test.YtbkdalgmhmaofaaDoorLaneR
import Derived.Test.YtbkdalgmhmaofaaDoorLaneP
import Derived.Test.YtbkdalgmhmaofaaDoorShelf
import Derived.WalkLawsBesides
import Derived.WalkSmall
namespace Go.Proofs.YtbkdalgmhmaofaaDoor.lane
open Go.RowKit Go.PlainAid

theorem str_un (l : List UInt8) : strOfNums (un l) = ⟨l.toArray⟩ := str_nums ⟨l.toArray⟩
theorem mk_inj (s : ByteArray) : (⟨s.data.toList.toArray⟩ : ByteArray) = s := rfl

/-- a run with its zeros, as the program makes it -/
def repB (x : ByteArray) : ByteArray := ⟨(Lib.replaceAll x.data.toList (⟨#[49, 49, 49, 49, 49, 49]⟩ : ByteArray).data.toList (⟨#[49, 49, 49, 49, 49, 49, 48]⟩ : ByteArray).data.toList).toArray⟩
theorem repB_data (x : ByteArray) : (repB x).data.toList = rep x.data.toList := rfl
theorem pieces_size (sep : ByteArray) (k : Nat) : ∀ (s : ByteArray), ∀ x ∈ Lib.splitB sep 0 k s, x.size ≤ s.size := by
  induction k with
  | zero => intro s x hx; simp [Lib.splitB] at hx; subst hx; exact Nat.le_refl _
  | succ k ih =>
    intro s x hx
    unfold Lib.splitB at hx
    split at hx
    · simp at hx; subst hx; exact Nat.le_refl _
    · rcases List.mem_cons.1 hx with rfl | hx
      · rw [ByteArray.size_extract]; omega
      · have := ih _ x hx
        rw [ByteArray.size_extract] at this
        omega
/-- strings in a row of cells, which may be written -/
structure Strs (w : World) (B : Nat) (ys : List ByteArray) : Prop where
  cell : ∀ (j : Nat) x, ys[j]? = some x → w.cell? ⟨B, j, none⟩ = some (.string x)
  free : ∀ j, w.frozen? ⟨B, j, none⟩ = false
theorem Strs.below {w w2 : World} {B C : Nat} {ys : List ByteArray} (h : Strs w B ys) (hb : Below C w w2) (hB : B < C) : Strs w2 B ys :=
  ⟨fun j x hx => (hb.cell (p := ⟨B, j, none⟩) hB).trans (h.cell j x hx), fun j => (hb.frozen (p := ⟨B, j, none⟩) hB).trans (h.free j)⟩
theorem Strs.set {w : World} {B : Nat} {ys : List ByteArray} (h : Strs w B ys) (k : Nat) (x y : ByteArray) (hk : ys[k]? = some x) : Strs (w.setCell ⟨B, k, none⟩ (.string y)) B (ys.set k y) := by
  refine ⟨fun j z hz => ?_, fun j => by rw [World.frozen?_setCell]; exact h.free j⟩
  by_cases e : k = j
  · subst e
    rw [World.cell?_setCell_same _ _ _ (h.cell k x hk)]
    rw [List.getElem?_set_self (by exact (List.getElem?_eq_some_iff.1 hk).1)] at hz
    rw [Option.some.inj hz]
  · rw [World.cell?_setCell_other w ⟨B, k, none⟩ ⟨B, j, none⟩ _ (fun q => e (by injection q))]
    rw [List.getElem?_set_ne e] at hz
    exact h.cell j z hz
theorem strs_made (w : World) (xs : List ByteArray) (t : TypeId) : Strs (w.alloc (.cells (xs.map Value.string).toArray t)) w.heap.size xs := by
  refine ⟨fun j x hx => ?_, fun j => World.frozen?_alloc_new w _ _ _⟩
  rw [World.cell?_alloc_new]
  simp [hx]
theorem mid_cell (xs : List ByteArray) (k : Nat) (x : ByteArray) (h : xs[k]? = some x) : ((xs.take k).map repB ++ xs.drop k)[k]? = some x := by
  have hk := (List.getElem?_eq_some_iff.1 h).1
  rw [List.getElem?_append_right (by simp; omega)]
  simp [show min k xs.length = k by omega, h]
theorem mid_set (xs : List ByteArray) (k : Nat) (x : ByteArray) (h : xs[k]? = some x) : ((xs.take k).map repB ++ xs.drop k).set k (repB x) = (xs.take (k + 1)).map repB ++ xs.drop (k + 1) := by
  obtain ⟨hk, e⟩ := List.getElem?_eq_some_iff.1 h
  have hl : ((xs.take k).map repB).length = k := by rw [List.length_map, List.length_take]; omega
  rw [List.set_append_right _ _ (by omega), hl, Nat.sub_self, List.drop_eq_getElem_cons hk, List.set_cons_zero, List.take_succ_eq_append_getElem hk, List.map_append, e]
  simp

theorem runs_all (s : ByteArray) (h : rowB (nums s) = true) :
    (⟨(Lib.join (((Lib.splitB ⟨#[48]⟩ 0 (Lib.countB s ⟨#[48]⟩) s).map repB).map (·.data.toList)) (⟨#[48]⟩ : ByteArray).data.toList).toArray⟩ : ByteArray) = strOfNums (stuffL 0 (nums s)) ∧
    (Lib.join (((Lib.splitB ⟨#[48]⟩ 0 (Lib.countB s ⟨#[48]⟩) s).map repB).map (·.data.toList)) (⟨#[48]⟩ : ByteArray).data.toList).length ≤ 2 * s.size := by
  have e1 : ((Lib.splitB ⟨#[48]⟩ 0 (Lib.countB s ⟨#[48]⟩) s).map repB).map (·.data.toList) = (Lib.split s.data.toList [48]).map rep := by
    have := Lib.splitB_data ⟨#[48]⟩ 0 (Lib.countB s ⟨#[48]⟩) s
    unfold Lib.split
    rw [show Lib.splitK [48] 0 (Lib.count s.data.toList [48]) s.data.toList = (Lib.splitB ⟨#[48]⟩ 0 (Lib.countB s ⟨#[48]⟩) s).map (·.data.toList) from this.symm, List.map_map, List.map_map]
    rfl
  have e2 := runs_stuff s.data.toList.length s.data.toList (Nat.le_refl _) h
  rw [e1]
  show (⟨(Lib.join ((Lib.split s.data.toList [48]).map rep) [48]).toArray⟩ : ByteArray) = _ ∧ (Lib.join ((Lib.split s.data.toList [48]).map rep) [48]).length ≤ _
  refine ⟨?_, ?_⟩
  · rw [← str_un, e2]; rfl
  · have hl := congrArg List.length e2
    have hz := stuffL_length 0 (nums s) (by omega)
    rw [nums_length] at hz
    have hu : ∀ l : List UInt8, (un l).length = l.length := fun l => List.length_map ..
    rw [hu] at hl
    rw [hl]
    exact Nat.le_trans hz (by omega)

set_option maxHeartbeats 400000 in
theorem rstuff_no (s : ByteArray) (w : World) (hs : s.size ≤ 1048576) (hr : rowB (nums s) = false) :
    Calls Tryd.prog 14 #[.string s] w fun e w' => e = .returned (.tuple #[.string ⟨#[]⟩, .int .i64 1]) ∧ Below w.heap.size w w' := by
  go_enter Tryd.func14, Tryd.ntmps14
  go_wp2_with (go_at_call 19; refine (only_row _ _ (by unfold maxLen; omega)).mono ?_; rintro e w' ⟨rfl, rfl⟩)
  go_ret2
  exact ⟨rfl, Below.refl _ _⟩
set_option maxHeartbeats 400000 in
theorem runstuff_no (s : ByteArray) (w : World) (hs : s.size ≤ 1048576) (hr : rowB (nums s) = false) :
    Calls Tryd.prog 42 #[.string s] w fun e w' => e = .returned (.tuple #[.string ⟨#[]⟩, .int .i64 1]) ∧ Below w.heap.size w w' := by
  go_enter Tryd.func42, Tryd.ntmps42
  go_wp2_with (go_at_call 19; refine (only_row _ _ (by unfold maxLen; omega)).mono ?_; rintro e w' ⟨rfl, rfl⟩)
  go_ret2
  exact ⟨rfl, Below.refl _ _⟩

set_option maxHeartbeats 1000000 in
theorem rstuff_ok (s : ByteArray) (w : World) (m : Int) (hm : w.cell? ⟨0, 0, none⟩ = some (.int .i64 m)) (hs : s.size ≤ 1048576) (hr : rowB (nums s) = true) :
    Calls Tryd.prog 14 #[.string s] w fun e w' => e = .returned (.tuple #[.string (strOfNums (stuffL 0 (nums s))), .int .i64 0]) ∧ Below w.heap.size w w' := by
  have hlow : 0 < w.heap.size := World.block_lt_of_cell? w _ hm
  have HM : Hid (∀ u : World, Below w.heap.size w u → u.cell? ⟨0, 0, none⟩ = some (.int .i64 m)) := fun u hb => (hb.cell (p := ⟨0, 0, none⟩) hlow).trans hm
  have hall := runs_all s hr
  have hlen := Lib.splitB_all ⟨#[48]⟩ (by decide) 0 _ s rfl
  have hpc := pieces_size ⟨#[48]⟩ (Lib.countB s ⟨#[48]⟩) s
  have hct := Lib.count_le s.data.toList (⟨#[48]⟩ : ByteArray).data.toList
  have hsplit := Tryd.strings_Split s ⟨#[48]⟩ m w (by omega) hm (by decide)
  obtain ⟨N, hN⟩ : ∃ N, Lib.countB s ⟨#[48]⟩ = N := ⟨_, rfl⟩
  rw [hN] at hall hlen hpc hsplit
  obtain ⟨xs, hxs⟩ : ∃ xs, Lib.splitB ⟨#[48]⟩ 0 N s = xs := ⟨_, rfl⟩
  rw [hxs] at hall hlen hpc hsplit
  have hN2 : N ≤ 1048577 := by
    have e : s.data.toList.length = s.size := by rw [Array.length_toList]; rfl
    rw [e] at hct
    have : Lib.count s.data.toList (⟨#[48]⟩ : ByteArray).data.toList = N := hN
    omega
  have HL : Hid (xs.length = N + 1) := hlen
  have HA : Hid ((⟨(Lib.join ((xs.map repB).map (·.data.toList)) (⟨#[48]⟩ : ByteArray).data.toList).toArray⟩ : ByteArray) = strOfNums (stuffL 0 (nums s)) ∧ (Lib.join ((xs.map repB).map (·.data.toList)) (⟨#[48]⟩ : ByteArray).data.toList).length ≤ 2 * s.size) := hall
  have HP : Hid (∀ x ∈ xs, x.size ≤ s.size) := hpc
  have HS : Hid (Calls Tryd.prog 28 #[.string s, .string ⟨#[48]⟩] w fun e w' => e = .returned (.slice (some ⟨w.heap.size, 0, none⟩) (N + 1) (N + 1)) ∧ w' = w.alloc (.cells (xs.map Value.string).toArray 9)) := hsplit
  clear hall hlen hpc hsplit hN hxs hct hm
  go_enter Tryd.func14, Tryd.ntmps14
  go_wp2_with (first
    | (go_at_call 19; refine (only_row _ _ (by unfold maxLen; omega)).mono ?_; rintro e w' ⟨rfl, rfl⟩))
  refine HS.out.mono ?_
  rintro e w1 ⟨rfl, hw1⟩
  have hst : Strs w1 w.heap.size xs := by rw [hw1]; exact strs_made w xs 9
  have hb1 : Below w.heap.size w w1 := by rw [hw1]; exact (Below.refl _ _).alloc (Nat.le_refl _) _
  have hsz1 : w.heap.size < w1.heap.size := by rw [hw1]; simp
  clear hw1
  go_wp2
  go_loopw [14] (fun i wr => ∃ k : Nat, k ≤ N + 1 ∧ i = .int .i64 k ∧ Strs wr w.heap.size ((xs.take k).map repB ++ xs.drop k) ∧ Below w.heap.size w wr ∧ w.heap.size < wr.heap.size)
    (fun i _ => N + 1 - (intOf i).toNat)
  case atStart => exact ⟨0, Nat.zero_le _, rfl, hst, hb1, hsz1⟩
  case round =>
    obtain ⟨k, hk, rfl, hstr, hbel, hsz⟩ := hrel
    clear hst hb1 hsz1
    by_cases hlt : k < N + 1
    · obtain ⟨x, hx⟩ : ∃ x, xs[k]? = some x := ⟨xs[k]'(by have := HL.out; omega), List.getElem?_eq_getElem _⟩
      have hxz := HP.out x (List.mem_of_getElem? hx)
      have hce := hstr.cell k x (mid_cell xs k x hx)
      have hcr := Tryd.strings_ReplaceAll x ⟨#[49, 49, 49, 49, 49, 49]⟩ ⟨#[49, 49, 49, 49, 49, 49, 48]⟩ m wr (by omega) (HM.out wr hbel) (by decide) (by
        have hc := Lib.count_le x.data.toList (⟨#[49, 49, 49, 49, 49, 49]⟩ : ByteArray).data.toList
        have e : x.data.toList.length = x.size := by rw [Array.length_toList]; rfl
        rw [e] at hc
        have e7 : (⟨#[49, 49, 49, 49, 49, 49, 48]⟩ : ByteArray).size = 7 := rfl
        rw [e7]
        have : Lib.countB x ⟨#[49, 49, 49, 49, 49, 49]⟩ ≤ x.size + 1 := hc
        omega)
      have HX : Hid (xs[k]? = some x) := hx
      have HT : Hid (Strs wr w.heap.size ((xs.take k).map repB ++ xs.drop k)) := hstr
      have HC : Hid (Calls Tryd.prog 29 #[.string x, .string ⟨#[49, 49, 49, 49, 49, 49]⟩, .string ⟨#[49, 49, 49, 49, 49, 49, 48]⟩] wr fun e w' => e = .returned (.string (repB x)) ∧ Below wr.heap.size wr w') := hcr
      have g1 : (k : Int) < (N : Int) + 1 := by omega
      clear hx hcr hstr
      go_wp2_with fail
      refine HC.out.mono ?_
      rintro e w2 ⟨rfl, hb2⟩
      have hs2 := HT.out.below hb2 hsz
      have hce2 := hs2.cell k x (mid_cell xs k x HX.out)
      have hfr2 := hs2.free k
      have HN : Hid (Strs (w2.setCell ⟨w.heap.size, k, none⟩ (.string (repB x))) w.heap.size ((xs.take (k + 1)).map repB ++ xs.drop (k + 1))) := by
        have := hs2.set k x (repB x) (mid_cell xs k x HX.out)
        rw [mid_set xs k x HX.out] at this
        exact this
      have HB : Hid (Below w.heap.size w (w2.setCell ⟨w.heap.size, k, none⟩ (.string (repB x)))) := (hbel.trans (hb2.mono (by omega))).setCell (Nat.le_refl _) _
      have hsz2 := hb2.size
      clear hs2 hb2 hbel HT HC
      go_wp2
      go_roundw
      case rel => exact ⟨k + 1, by omega, by go_num, HN.out, HB.out, by simp; omega⟩
      case measure => simp [intOf]; omega
    · obtain rfl : k = N + 1 := by omega
      have hl := HL.out
      rw [List.take_of_length_le (by omega), List.drop_eq_nil_of_le (by omega), List.append_nil] at hstr
      have hj := Tryd.strings_Join w.heap.size 0 (N + 1) (xs.map repB) ⟨#[48]⟩ wr (fun j x hx => by rw [Nat.zero_add]; exact hstr.cell j x hx) hsz (by rw [List.length_map]; omega) (by rw [List.length_map]; omega) (Nat.le_trans HA.out.2 (by omega))
      have ha1 : (⟨(Lib.join ((xs.map repB).map (·.data.toList)) (⟨#[48]⟩ : ByteArray).data.toList).toArray⟩ : ByteArray) = strOfNums (stuffL 0 (nums s)) := HA.out.1
      rw [List.length_map, hl, ha1] at hj
      have HJ : Hid (Calls Tryd.prog 30 #[.slice (some ⟨w.heap.size, 0, none⟩) (N + 1) (N + 1), .string ⟨#[48]⟩] wr fun e w' => e = .returned (.string (strOfNums (stuffL 0 (nums s)))) ∧ Below wr.heap.size wr w') := hj
      clear hj hstr hl HA
      go_wp2_with fail
      refine HJ.out.mono ?_
      rintro e w2 ⟨rfl, hb2⟩
      go_wp2
      go_ret2
      exact ⟨rfl, hbel.trans (hb2.mono (by omega))⟩
end Go.Proofs.YtbkdalgmhmaofaaDoor.lane
