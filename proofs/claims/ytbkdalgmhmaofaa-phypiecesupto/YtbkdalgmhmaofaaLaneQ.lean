/- plugref's lane: what Stuff and Unstuff answer. -/
import Derived.Test.YtbkdalgmhmaofaaLaneR
import Derived.Test.YtbkdalgmhmaofaaLaneP
import Derived.Test.YtbkdalgmhmaofaaShelf
import Derived.WalkLawsBesides
import Derived.WalkSmall
namespace Go.Proofs.Ytbkdalgmhmaofaa.lane
open Go.RowKit Go.PlainAid

theorem str_un (l : List UInt8) : strOfNums (un l) = ⟨l.toArray⟩ := str_nums ⟨l.toArray⟩
theorem mk_inj (s : ByteArray) : (⟨s.data.toList.toArray⟩ : ByteArray) = s := rfl

/-- a run with its zeros, as the program makes it -/
def repB (x : ByteArray) : ByteArray := ⟨(Lib.replaceAll x.data.toList (⟨#[49, 49, 49, 49, 49, 49]⟩ : ByteArray).data.toList (⟨#[49, 49, 49, 49, 49, 49, 48]⟩ : ByteArray).data.toList).toArray⟩
theorem repB_data (x : ByteArray) : (repB x).data.toList = rep x.data.toList := rfl
theorem pieces_size (sep : ByteArray) (k : Nat) : ∀ (s : ByteArray), ∀ x ∈ Lib.splitB sep 0 k s, x.size ≤ s.size := by
  induction k with
  | zero => intro s x hx; simp [Lib.splitB] at hx; subst hx; exact Nat.le_refl _
  | succ k ih =>
    intro s x hx
    unfold Lib.splitB at hx
    split at hx
    · simp at hx; subst hx; exact Nat.le_refl _
    · rcases List.mem_cons.1 hx with rfl | hx
      · rw [ByteArray.size_extract]; omega
      · have := ih _ x hx
        rw [ByteArray.size_extract] at this
        omega
/-- strings in a row of cells, which may be written -/
structure Strs (w : World) (B : Nat) (ys : List ByteArray) : Prop where
  cell : ∀ (j : Nat) x, ys[j]? = some x → w.cell? ⟨B, j, none⟩ = some (.string x)
  free : ∀ j, w.frozen? ⟨B, j, none⟩ = false
theorem Strs.below {w w2 : World} {B C : Nat} {ys : List ByteArray} (h : Strs w B ys) (hb : Below C w w2) (hB : B < C) : Strs w2 B ys :=
  ⟨fun j x hx => (hb.cell (p := ⟨B, j, none⟩) hB).trans (h.cell j x hx), fun j => (hb.frozen (p := ⟨B, j, none⟩) hB).trans (h.free j)⟩
theorem Strs.set {w : World} {B : Nat} {ys : List ByteArray} (h : Strs w B ys) (k : Nat) (x y : ByteArray) (hk : ys[k]? = some x) : Strs (w.setCell ⟨B, k, none⟩ (.string y)) B (ys.set k y) := by
  refine ⟨fun j z hz => ?_, fun j => by rw [World.frozen?_setCell]; exact h.free j⟩
  by_cases e : k = j
  · subst e
    rw [World.cell?_setCell_same _ _ _ (h.cell k x hk)]
    rw [List.getElem?_set_self (by exact (List.getElem?_eq_some_iff.1 hk).1)] at hz
    rw [Option.some.inj hz]
  · rw [World.cell?_setCell_other w ⟨B, k, none⟩ ⟨B, j, none⟩ _ (fun q => e (by injection q))]
    rw [List.getElem?_set_ne e] at hz
    exact h.cell j z hz
theorem strs_made (w : World) (xs : List ByteArray) (t : TypeId) : Strs (w.alloc (.cells (xs.map Value.string).toArray t)) w.heap.size xs := by
  refine ⟨fun j x hx => ?_, fun j => World.frozen?_alloc_new w _ _ _⟩
  rw [World.cell?_alloc_new]
  simp [hx]
theorem mid_cell (xs : List ByteArray) (k : Nat) (x : ByteArray) (h : xs[k]? = some x) : ((xs.take k).map repB ++ xs.drop k)[k]? = some x := by
  have hk := (List.getElem?_eq_some_iff.1 h).1
  rw [List.getElem?_append_right (by simp; omega)]
  simp [show min k xs.length = k by omega, h]
theorem mid_set (xs : List ByteArray) (k : Nat) (x : ByteArray) (h : xs[k]? = some x) : ((xs.take k).map repB ++ xs.drop k).set k (repB x) = (xs.take (k + 1)).map repB ++ xs.drop (k + 1) := by
  obtain ⟨hk, e⟩ := List.getElem?_eq_some_iff.1 h
  have hl : ((xs.take k).map repB).length = k := by rw [List.length_map, List.length_take]; omega
  rw [List.set_append_right _ _ (by omega), hl, Nat.sub_self, List.drop_eq_getElem_cons hk, List.set_cons_zero, List.take_succ_eq_append_getElem hk, List.map_append, e]
  simp

theorem runs_all (s : ByteArray) (h : rowB (nums s) = true) :
    (⟨(Lib.join (((Lib.splitB ⟨#[48]⟩ 0 (Lib.countB s ⟨#[48]⟩) s).map repB).map (·.data.toList)) (⟨#[48]⟩ : ByteArray).data.toList).toArray⟩ : ByteArray) = strOfNums (stuffL 0 (nums s)) ∧
    (Lib.join (((Lib.splitB ⟨#[48]⟩ 0 (Lib.countB s ⟨#[48]⟩) s).map repB).map (·.data.toList)) (⟨#[48]⟩ : ByteArray).data.toList).length ≤ 2 * s.size := by
  have e1 : ((Lib.splitB ⟨#[48]⟩ 0 (Lib.countB s ⟨#[48]⟩) s).map repB).map (·.data.toList) = (Lib.split s.data.toList [48]).map rep := by
    have := Lib.splitB_data ⟨#[48]⟩ 0 (Lib.countB s ⟨#[48]⟩) s
    unfold Lib.split
    rw [show Lib.splitK [48] 0 (Lib.count s.data.toList [48]) s.data.toList = (Lib.splitB ⟨#[48]⟩ 0 (Lib.countB s ⟨#[48]⟩) s).map (·.data.toList) from this.symm, List.map_map, List.map_map]
    rfl
  have e2 := runs_stuff s.data.toList.length s.data.toList (Nat.le_refl _) h
  rw [e1]
  show (⟨(Lib.join ((Lib.split s.data.toList [48]).map rep) [48]).toArray⟩ : ByteArray) = _ ∧ (Lib.join ((Lib.split s.data.toList [48]).map rep) [48]).length ≤ _
  refine ⟨?_, ?_⟩
  · rw [← str_un, e2]; rfl
  · have hl := congrArg List.length e2
    have hz := stuffL_length 0 (nums s) (by omega)
    rw [nums_length] at hz
    have hu : ∀ l : List UInt8, (un l).length = l.length := fun l => List.length_map ..
    rw [hu] at hl
    rw [hl]
    exact Nat.le_trans hz (by omega)

set_option maxHeartbeats 400000 in
theorem runstuff_no (s : ByteArray) (w : World) (hs : s.size ≤ 1048576) (hr : rowB (nums s) = false) :
    Calls Try.prog 24 #[.string s] w fun e w' => e = .returned (.tuple #[.string ⟨#[]⟩, .int .i64 1]) ∧ Below w.heap.size w w' := by
  go_enter Try.func24, Try.ntmps24
  go_wp2_with (go_at_call 22; refine (only_row _ _ (by unfold maxLen; omega)).mono ?_; rintro e w' ⟨rfl, rfl⟩)
  go_ret2
  exact ⟨rfl, Below.refl _ _⟩

end Go.Proofs.Ytbkdalgmhmaofaa.lane
