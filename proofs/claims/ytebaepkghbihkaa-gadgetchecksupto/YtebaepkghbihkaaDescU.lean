/- plugref's desc: what TextText and ReadText answer. -/
import Derived.Test.YtebaepkghbihkaaUtfW
import Derived.Test.YtebaepkghbihkaaDescT
namespace Go.Proofs.Ytebaepkghbihkaa.desc
open Go.RowKit Go.PlainAid Go.Proofs.Ytebaepkghbihkaa.lane Go.Proofs.Ytebaepkghbihkaa.utf
set_option linter.unusedVariables false

theorem two_all (n : Int) (h0 : 0 ≤ n) (h1 : n ≤ 255) : allB 255 [n, 3] = true := by
  simp [allB, inB, h0, h1]
set_option maxHeartbeats 1000000 in
theorem rtextText_any (s : ByteArray) (w : World) (hs : s.size ≤ 17000000000000) :
    Calls Try.prog 29 #[.string s] w fun e w' => e = .returned (.tuple #[.string (dtxt s), .int .i64 (werr s)]) ∧ Below w.heap.size w w' := by
  have HW : Hid (∀ w : World, Calls Try.prog 59 #[.string s] w fun e w' => e = .returned (.tuple #[.string (wtxt s), .int .i64 (werr s)]) ∧ Below w.heap.size w w') := fun w => rwide_any s w hs
  unfold dtxt
  rcases werr_cases s with ⟨h0, hz⟩ | h0
  · rw [h0] at HW ⊢
    rw [if_pos rfl]
    generalize wtxt s = x at *
    clear h0
    go_enter Try.func29, Try.ntmps29
    go_wp2_with fail
    refine (HW.out _).mono ?_
    rintro e wa ⟨rfl, hb⟩
    have HB : Hid (Below w.heap.size w wa) := hb
    obtain ⟨y, hy⟩ : ∃ y, strOfNums [2 + (x.size : Int), 3] = y := ⟨_, rfl⟩
    have HY : Hid (strOfNums [2 + (x.size : Int), 3] = y) := hy
    have hz2 : y.size = 2 := by rw [← hy]; exact str_size _
    have HC : Hid (Calls Try.prog 35 #[.slice (some ⟨wa.heap.size, 0, none⟩) 2 2] (wa.alloc (.cells #[.int .i64 ((x.size : Int) + 2), .int .i64 3] 3)) fun e w' => e = .returned (.tuple #[.string y, .bool true]) ∧ Below (wa.heap.size + 1) (wa.alloc (.cells #[.int .i64 ((x.size : Int) + 2), .int .i64 3] 3)) w') := by
      have := bytesOf_any _ [(x.size : Int) + 2, 3] _ (Rig.new wa [(x.size : Int) + 2, 3] 3 (by simp [maxLen])) (by simp)
      rw [bof, two_all _ (by omega) (by omega), if_pos rfl, Int.add_comm (x.size : Int) 2, hy] at this
      rw [Int.add_comm (x.size : Int) 2]
      show Calls _ _ _ _ _
      simpa using this
    have hz3 : (y ++ x).size = 2 + x.size := by rw [ByteArray.size_append, hz2]
    clear hb hy
    go_wp2_with fail
    refine HC.out.mono ?_
    rintro e wb ⟨rfl, hb2⟩
    have HB2 : Hid (Below w.heap.size w wb) := (HB.out.trans ((balloc wa _).mono HB.out.size)).trans (hb2.mono (by have := HB.out.size; omega))
    clear hb2
    go_wp2
    go_ret2
    rw [HY.out]
    exact ⟨rfl, HB2.out⟩
  · rw [h0] at HW ⊢
    rw [if_neg (by decide)]
    generalize wtxt s = x at *
    clear h0
    go_enter Try.func29, Try.ntmps29
    go_wp2_with fail
    refine (HW.out _).mono ?_
    rintro e wa ⟨rfl, hb⟩
    have HB : Hid (Below w.heap.size w wa) := hb
    clear hb
    go_wp2
    go_ret2
    exact ⟨rfl, HB.out⟩
end Go.Proofs.Ytebaepkghbihkaa.desc
