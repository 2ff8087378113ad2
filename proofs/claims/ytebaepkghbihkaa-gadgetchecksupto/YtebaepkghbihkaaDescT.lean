/- desc: what WriteText and ReadText answer; and plugref's TextText and ReadText. -/
import Derived.Test.YtebaepkghbihkaaUtfD
import Derived.Test.YtebaepkghbihkaaDescD
namespace Go.Proofs.Ytebaepkghbihkaa.desc
open Go.RowKit Go.PlainAid Go.Proofs.Ytebaepkghbihkaa.lane Go.Proofs.Ytebaepkghbihkaa.utf
set_option linter.unusedVariables false

theorem conv_new (w : World) (ys : List Int) : (convert 56 9 (.slice (some ⟨w.heap.size, 0, none⟩) ys.length ys.length)).run Try.prog (w.alloc (.cells (ys.map (Value.int .u8)).toArray 5)) = .ok (.string (strOfNums ys)) (w.alloc (.cells (ys.map (Value.int .u8)).toArray 5)) := by
  refine run_convert_bytes_arg _ 56 5 Try.underlying56 Try.underlying5 w.heap.size 0 ys.length ys.length ys rfl ?_ 9 Try.underlying9
  intro i hi
  rw [Nat.zero_add, bys_new w ys _ i ys[i] (List.getElem?_eq_getElem hi)]
  simp [List.getD, List.getElem?_eq_getElem hi]
/-- what WriteText answers -/
def dtxt (s : ByteArray) : ByteArray := if werr s = 0 then strOfNums [2 + ((wtxt s).size : Int), 3] ++ wtxt s else ⟨#[]⟩
theorem werr_cases (s : ByteArray) : (werr s = 0 ∧ (wtxt s).size ≤ 252) ∨ werr s = 2 := by
  unfold werr wtxt
  split
  · rename_i h; left; exact ⟨rfl, by rw [str_size]; exact h⟩
  · right; rfl
/-- what ReadText answers -/
def rdT (t : ByteArray) : ByteArray := if t.size < 2 then ⟨#[]⟩ else if bt t 0 = (t.size : Int) ∧ bt t 1 = 3 then ntxt (t.extract 2 t.size) else ⟨#[]⟩
def rdC (t : ByteArray) : Int := if t.size < 2 then 3 else if bt t 0 = (t.size : Int) ∧ bt t 1 = 3 then nerr (t.extract 2 t.size) else 4
theorem ret_txt {a b : ByteArray} {c d : Int} (h : a = b) (h2 : c = d) : Ending.returned (.tuple #[.string a, .int .i64 c]) = .returned (.tuple #[.string b, .int .i64 d]) := by rw [h, h2]

set_option maxHeartbeats 1000000 in
theorem writeText_any (s : ByteArray) (w : World) :
    Calls Try.prog 25 #[.string s] w fun e w' => e = .returned (.tuple #[.string (dtxt s), .int .i64 (werr s)]) ∧ Below w.heap.size w w' := by
  have HW : Hid (∀ w : World, Calls Try.prog 54 #[.string s] w fun e w' => e = .returned (.tuple #[.string (wtxt s), .int .i64 (werr s)]) ∧ Below w.heap.size w w') := fun w => wide_any s w
  unfold dtxt
  rcases werr_cases s with ⟨h0, hz⟩ | h0
  · rw [h0] at HW ⊢
    rw [if_pos rfl]
    generalize wtxt s = x at *
    go_enter Try.func25, Try.ntmps25
    go_wp2_with fail
    refine (HW.out _).mono ?_
    rintro e wa ⟨rfl, hb⟩
    have HB : Hid (Below w.heap.size w wa) := hb
    have hc : (convert 56 9 (.slice (some ⟨wa.heap.size, 0, none⟩) 2 2)).run Try.prog (wa.alloc (.cells #[.int .u8 (2 + (x.size : Int)), .int .u8 3] 5)) = .ok (.string (strOfNums [2 + (x.size : Int), 3])) (wa.alloc (.cells #[.int .u8 (2 + (x.size : Int)), .int .u8 3] 5)) := conv_new wa [2 + (x.size : Int), 3]
    have hz2 : (strOfNums [2 + (x.size : Int), 3]).size = 2 := str_size _
    obtain ⟨y, hy⟩ : ∃ y, strOfNums [2 + (x.size : Int), 3] = y := ⟨_, rfl⟩
    rw [hy] at hc hz2
    have HY : Hid (strOfNums [2 + (x.size : Int), 3] = y) := hy
    clear hy
    have hz3 : (y ++ x).size = 2 + x.size := by rw [ByteArray.size_append, hz2]
    clear hb h0
    go_wp2
    go_ret2
    rw [HY.out]
    exact ⟨rfl, bsq HB.out (balloc _ _)⟩
  · rw [h0] at HW ⊢
    rw [if_neg (by decide)]
    generalize wtxt s = x at *
    clear h0
    go_enter Try.func25, Try.ntmps25
    go_wp2_with fail
    refine (HW.out _).mono ?_
    rintro e wa ⟨rfl, hb⟩
    have HB : Hid (Below w.heap.size w wa) := hb
    clear hb
    go_wp2
    go_ret2
    exact ⟨rfl, HB.out⟩
set_option maxHeartbeats 1000000 in
theorem readText_any (t : ByteArray) (w : World) (hm : t.size ≤ maxLen) :
    Calls Try.prog 21 #[.string t] w fun e w' => e = .returned (.tuple #[.string (rdT t), .int .i64 (rdC t)]) ∧ Below w.heap.size w w' := by
  have HW : Hid (∀ w : World, Calls Try.prog 49 #[.string (t.extract 2 t.size)] w fun e w' => e = .returned (.tuple #[.string (ntxt (t.extract 2 t.size)), .int .i64 (nerr (t.extract 2 t.size))]) ∧ Below w.heap.size w w') := fun w => narrow_any _ w (by rw [ByteArray.size_extract]; omega)
  unfold maxLen at hm
  have hbt := get_bt t
  have h1 := bt_le t 0
  have h0 := bt_nonneg t 0
  unfold rdT rdC
  by_cases hs : t.size < 2
  · rw [if_pos hs, if_pos hs]
    clear HW h0 h1
    go_enter Try.func21, Try.ntmps21
    go_wp2
    go_ret2
    exact ⟨rfl, Below.refl _ _⟩
  rw [if_neg hs, if_neg hs]
  by_cases he : bt t 0 = (t.size : Int)
  · by_cases h3 : bt t 1 = 3
    · rw [if_pos ⟨he, h3⟩, if_pos ⟨he, h3⟩]
      have e1 : (bt t 0 != (t.size : Int)) = false := by simpa using he
      have e2 : (bt t 1 != 3) = false := by simpa using h3
      generalize ntxt (t.extract 2 t.size) = x at *
      generalize nerr (t.extract 2 t.size) = z at *
      clear he h3
      go_enter Try.func21, Try.ntmps21
      go_wp2_with fail
      refine (HW.out _).mono ?_
      rintro e wa ⟨rfl, hb⟩
      go_wp2
      go_ret2
      exact ⟨rfl, hb⟩
    · rw [if_neg (fun h => h3 h.2), if_neg (fun h => h3 h.2)]
      have e1 : (bt t 0 != (t.size : Int)) = false := by simpa using he
      have e2 : (bt t 1 != 3) = true := by simpa using h3
      clear he h3 HW
      go_enter Try.func21, Try.ntmps21
      go_wp2
      go_ret2
      exact ⟨rfl, Below.refl _ _⟩
  · rw [if_neg (fun h => he h.1), if_neg (fun h => he h.1)]
    have e1 : (bt t 0 != (t.size : Int)) = true := by simpa using he
    clear he HW
    go_enter Try.func21, Try.ntmps21
    go_wp2
    go_ret2
    exact ⟨rfl, Below.refl _ _⟩
end Go.Proofs.Ytebaepkghbihkaa.desc
