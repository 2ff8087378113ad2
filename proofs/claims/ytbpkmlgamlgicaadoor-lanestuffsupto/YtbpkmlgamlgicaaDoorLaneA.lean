/- lane: what isRow and areLevels answer. -/
import Derived.Test.YtbpkmlgamlgicaaDoorRows
import Derived.Test.YtbpkmlgamlgicaaDoorLaneM
import Derived.WalkKit
import Derived.Handy
namespace Go.Proofs.YtbpkmlgamlgicaaDoor.lane
open Go.RowKit Go.PlainAid

theorem ret_bool {a b : Bool} (h : a = b) : Ending.returned (.bool a) = .returned (.bool b) := by rw [h]

theorem in_one {x c d : Int} {a b : Bool} (h : ((x == c || x == d) && a) = b) (hx : x = c) : a = b := by
  subst hx; simpa using h
theorem in_two {x c d : Int} {a b : Bool} (h : ((x == c || x == d) && a) = b) (hx : (x != c) = false ∨ (x != d) = false) : a = b := by
  rcases hx with hx | hx
  · have : x = c := by simpa using hx
    exact in_one h this
  · have : x = d := by simpa using hx
    subst this; simpa using h
theorem in_out {x c d : Int} {a b : Bool} (h : ((x == c || x == d) && a) = b) (hx : (x != c) = true ∧ (x != d) = true) : false = b := by
  have h1 : (x == c) = false := by simpa using hx.1
  have h2 : (x == d) = false := by simpa using hx.2
  simpa [h1, h2] using h

set_option maxHeartbeats 400000 in
theorem isRow_any (s : ByteArray) (w : World) (hs : s.size ≤ maxLen) :
    Calls Tryd.prog 8 #[.string s] w fun e w' => e = .returned (.bool (rowB (nums s))) ∧ w = w' := by
  unfold maxLen at hs
  have hb := get_bt s
  go_enter Tryd.func8, Tryd.ntmps8
  go_wp2
  go_loop [6] (fun i => ∃ k : Nat, k ≤ s.size ∧ i = .int .i64 k ∧ rowB ((nums s).drop k) = rowB (nums s)) (fun i => s.size - (intOf i).toNat)
  case atStart => exact ⟨0, Nat.zero_le _, rfl, rfl⟩
  case round =>
    obtain ⟨k, hk, rfl, hr⟩ := hrel
    by_cases hlt : k < s.size
    · rw [drop_nums s k hlt, rowB_cons] at hr
      have HR : Hid (((bt s k == 48 || bt s k == 49) && rowB ((nums s).drop (k + 1))) = rowB (nums s)) := hr
      clear hr
      go_wp2
      · go_round
        case rel => exact ⟨k + 1, by omega, by go_num, in_one HR.out (by assumption)⟩
        case measure => simp [intOf]; omega
      · go_ret
        exact ⟨ret_bool (in_out HR.out (by assumption)), rfl⟩
      · go_round
        case rel => exact ⟨k + 1, by omega, by go_num, in_two HR.out (by assumption)⟩
        case measure => simp [intOf]; omega
    · go_wp2
      go_ret
      rw [drop_end s k (by omega)] at hr
      exact ⟨ret_bool hr, rfl⟩


end Go.Proofs.YtbpkmlgamlgicaaDoor.lane
