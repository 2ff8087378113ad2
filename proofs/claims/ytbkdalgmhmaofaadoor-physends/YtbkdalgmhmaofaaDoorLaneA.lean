/- lane: what isRow and areLevels answer. -/
import Derived.Test.YtbkdalgmhmaofaaDoorRows
import Derived.Test.YtbkdalgmhmaofaaDoorLaneM
import Derived.WalkKit
import Derived.Handy
namespace Go.Proofs.YtbkdalgmhmaofaaDoor.lane
open Go.RowKit Go.PlainAid

theorem ret_bool {a b : Bool} (h : a = b) : Ending.returned (.bool a) = .returned (.bool b) := by rw [h]

theorem in_one {x c d : Int} {a b : Bool} (h : ((x == c || x == d) && a) = b) (hx : x = c) : a = b := by
  subst hx; simpa using h
theorem in_two {x c d : Int} {a b : Bool} (h : ((x == c || x == d) && a) = b) (hx : (x != c) = false ∨ (x != d) = false) : a = b := by
  rcases hx with hx | hx
  · have : x = c := by simpa using hx
    exact in_one h this
  · have : x = d := by simpa using hx
    subst this; simpa using h
theorem in_out {x c d : Int} {a b : Bool} (h : ((x == c || x == d) && a) = b) (hx : (x != c) = true ∧ (x != d) = true) : false = b := by
  have h1 : (x == c) = false := by simpa using hx.1
  have h2 : (x == d) = false := by simpa using hx.2
  simpa [h1, h2] using h

set_option maxHeartbeats 400000 in
theorem isRow_any (s : ByteArray) (w : World) (hs : s.size ≤ maxLen) :
    Calls Tryd.prog 23 #[.string s] w fun e w' => e = .returned (.bool (rowB (nums s))) ∧ w = w' := by
  unfold maxLen at hs
  have hb := get_bt s
  go_enter Tryd.func23, Tryd.ntmps23
  go_wp2
  go_loop [6] (fun i => ∃ k : Nat, k ≤ s.size ∧ i = .int .i64 k ∧ rowB ((nums s).drop k) = rowB (nums s)) (fun i => s.size - (intOf i).toNat)
  case atStart => exact ⟨0, Nat.zero_le _, rfl, rfl⟩
  case round =>
    obtain ⟨k, hk, rfl, hr⟩ := hrel
    by_cases hlt : k < s.size
    · rw [drop_nums s k hlt, rowB_cons] at hr
      have HR : Hid (((bt s k == 48 || bt s k == 49) && rowB ((nums s).drop (k + 1))) = rowB (nums s)) := hr
      clear hr
      go_wp2
      · go_round
        case rel => exact ⟨k + 1, by omega, by go_num, in_one HR.out (by assumption)⟩
        case measure => simp [intOf]; omega
      · go_ret
        exact ⟨ret_bool (in_out HR.out (by assumption)), rfl⟩
      · go_round
        case rel => exact ⟨k + 1, by omega, by go_num, in_two HR.out (by assumption)⟩
        case measure => simp [intOf]; omega
    · go_wp2
      go_ret
      rw [drop_end s k (by omega)] at hr
      exact ⟨ret_bool hr, rfl⟩

theorem isLevel_any (c : Int) (w : World) :
    Calls Tryd.prog 26 #[.int .u8 c] w fun e w' => e = .returned (.bool (lev c)) ∧ w = w' := by
  by_cases h : c = 74
  · subst h
    go_enter Tryd.func26, Tryd.ntmps26
    go_wp2
    go_ret
    exact ⟨rfl, rfl⟩
  · have h1 : (c == 74) = false := by simpa using h
    go_enter Tryd.func26, Tryd.ntmps26
    go_wp2
    go_ret
    exact ⟨ret_bool (by simp [lev, h1]), rfl⟩
theorem other_any (c : Int) (w : World) :
    Calls Tryd.prog 27 #[.int .u8 c] w fun e w' => e = .returned (.int .u8 (oth c)) ∧ w = w' := by
  by_cases h : c = 74
  · subst h
    go_enter Tryd.func27, Tryd.ntmps27
    go_wp2
    go_ret
    exact ⟨rfl, rfl⟩
  · have h1 : (c == 74) = false := by simpa using h
    have e : oth c = 74 := by simp [oth, h]
    rw [e]
    go_enter Tryd.func27, Tryd.ntmps27
    go_wp2
    go_ret
    exact ⟨rfl, rfl⟩
theorem sign_any (b : Bool) (w : World) :
    Calls Tryd.prog 25 #[.bool b] w fun e w' => e = .returned (.int .u8 (sgn b)) ∧ w = w' := by
  cases b
  all_goals
    go_enter Tryd.func25, Tryd.ntmps25
    go_wp2
    go_ret
    exact ⟨rfl, rfl⟩

set_option maxHeartbeats 400000 in
theorem areLevels_any (s : ByteArray) (w : World) (hs : s.size ≤ maxLen) :
    Calls Tryd.prog 65 #[.string s] w fun e w' => e = .returned (.bool (levB (nums s))) ∧ w = w' := by
  unfold maxLen at hs
  have hb := get_bt s
  go_enter Tryd.func65, Tryd.ntmps65
  go_wp2
  go_loop [6] (fun i => ∃ k : Nat, k ≤ s.size ∧ i = .int .i64 k ∧ levB ((nums s).drop k) = levB (nums s)) (fun i => s.size - (intOf i).toNat)
  case atStart => exact ⟨0, Nat.zero_le _, rfl, rfl⟩
  case round =>
    obtain ⟨k, hk, rfl, hr⟩ := hrel
    by_cases hlt : k < s.size
    · rw [drop_nums s k hlt, levB_cons] at hr
      have HR : Hid ((lev (bt s k) && levB ((nums s).drop (k + 1))) = levB (nums s)) := hr
      clear hr
      cases hl : lev (bt s k)
      · go_wp2_with (go_at_call 26; refine (isLevel_any _ _).mono ?_; rintro e w' ⟨rfl, rfl⟩)
        go_ret
        exact ⟨ret_bool (by have h := HR.out; rw [hl] at h; simpa using h), rfl⟩
      · go_wp2_with (go_at_call 26; refine (isLevel_any _ _).mono ?_; rintro e w' ⟨rfl, rfl⟩)
        go_round
        case rel => exact ⟨k + 1, by omega, by go_num, by have h := HR.out; rw [hl] at h; simpa using h⟩
        case measure => simp [intOf]; omega
    · go_wp2
      go_ret
      rw [drop_end s k (by omega)] at hr
      exact ⟨ret_bool hr, rfl⟩
end Go.Proofs.YtbkdalgmhmaofaaDoor.lane
