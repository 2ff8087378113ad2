/- plugref's lane: what only, Turn and Unturn answer. -/
import Derived.Test.YtbkdalgmhmaofaaDoorLaneC
import Derived.Test.YtbkdalgmhmaofaaDoorLaneN
import Derived.Lib.Bytealg
import Derived.Deep.QuietTactic
import Derived.BigQuiet
namespace Go.Proofs.YtbkdalgmhmaofaaDoor.lane
open Go.RowKit Go.PlainAid

set_option maxHeartbeats 1000000 in
set_option maxRecDepth 100000 in
theorem indexByteLite (s : ByteArray) (c : Int) (w : World) :
    Calls Tryd.prog 54 #[.string s, .int .u8 c] w fun e w' => e = .returned (.int .i64 (Lib.indexByte s.data.toList c.toNat.toUInt8)) ∧ w = w' := by
  go_enter Tryd.func54, Tryd.ntmps54
  go_wp2
  rw [run_callFunc_extern Tryd.func68 (by kernel_rfl) (by kernel_rfl) (by kernel_rfl) (e := Extern.BytealgIndexByte.indexByte) (by kernel_rfl), Lib.run_indexByteString]
  simp only [Result.andThen]
  rw [Oper.upon_value]
  go_wp2
  go_ret
  exact ⟨rfl, rfl⟩
theorem indexByte_any (s : ByteArray) (c : Int) (w : World) :
    Calls Tryd.prog 35 #[.string s, .int .u8 c] w fun e w' => e = .returned (.int .i64 (Lib.indexByte s.data.toList c.toNat.toUInt8)) ∧ w = w' := by
  go_enter Tryd.func35, Tryd.ntmps35
  go_wp2_with (go_at_call 54; refine (indexByteLite _ _ _).mono ?_; rintro e w' ⟨rfl, rfl⟩)
  go_ret
  exact ⟨rfl, rfl⟩

theorem idx_row_all : ∀ n : Fin 256, ((n.val : Int) == 48 || (n.val : Int) == 49) = !decide (Lib.indexByte [48, 49] (n.val : Int).toNat.toUInt8 < 0) := by decide +kernel
theorem idx_lev_all : ∀ n : Fin 256, lev (n.val : Int) = !decide (Lib.indexByte [74, 75] (n.val : Int).toNat.toUInt8 < 0) := by decide +kernel
theorem idx_row (x : Int) (h0 : 0 ≤ x) (h1 : x ≤ 255) : (x == 48 || x == 49) = !decide (Lib.indexByte [48, 49] x.toNat.toUInt8 < 0) := by
  have h := idx_row_all ⟨x.toNat, by omega⟩
  have e : ((x.toNat : Nat) : Int) = x := by omega
  simp only [e] at h
  exact h
theorem idx_lev (x : Int) (h0 : 0 ≤ x) (h1 : x ≤ 255) : lev x = !decide (Lib.indexByte [74, 75] x.toNat.toUInt8 < 0) := by
  have h := idx_lev_all ⟨x.toNat, by omega⟩
  have e : ((x.toNat : Nat) : Int) = x := by omega
  simp only [e] at h
  exact h

set_option maxHeartbeats 400000 in
/-- 'only' over signs for which the index says what 'p' says -/
theorem only_any (s : ByteArray) (sg : ByteArray) (p : Int → Bool) (hp : ∀ x, 0 ≤ x → x ≤ 255 → p x = !decide (Lib.indexByte sg.data.toList x.toNat.toUInt8 < 0)) (w : World) (hs : s.size ≤ maxLen) :
    Calls Tryd.prog 19 #[.string s, .string sg] w fun e w' => e = .returned (.bool ((nums s).all p)) ∧ w = w' := by
  unfold maxLen at hs
  have hb := get_bt s
  have HP : Hid (∀ x, 0 ≤ x → x ≤ 255 → p x = !decide (Lib.indexByte sg.data.toList x.toNat.toUInt8 < 0)) := hp
  clear hp
  go_enter Tryd.func19, Tryd.ntmps19
  go_wp2
  go_loop [8] (fun i => ∃ k : Nat, k ≤ s.size ∧ i = .int .i64 k ∧ Hid (((nums s).drop k).all p = (nums s).all p)) (fun i => s.size - (intOf i).toNat)
  case atStart => exact ⟨0, Nat.zero_le _, rfl, rfl⟩
  case round =>
    obtain ⟨k, hk, rfl, HR⟩ := hrel
    by_cases hlt : k < s.size
    · have h0 := HP.out (bt s k) (bt_nonneg s k) (bt_le s k)
      have hr := HR.out
      rw [drop_nums s k hlt, List.all_cons] at hr
      have HQ : Hid ((p (bt s k) && ((nums s).drop (k + 1)).all p) = (nums s).all p) := hr
      clear hr HR
      generalize hx : Lib.indexByte sg.data.toList (bt s k).toNat.toUInt8 = ix at h0
      have HX : Hid (Lib.indexByte sg.data.toList (bt s k).toNat.toUInt8 = ix) := hx
      have H0 : Hid (p (bt s k) = !decide (ix < 0)) := h0
      clear hx h0
      by_cases hi : ix < 0
      · go_wp2_with (go_at_call 35; refine (indexByte_any _ _ _).mono ?_; rintro e w' ⟨rfl, rfl⟩; rw [HX.out])
        go_ret
        have h1 := H0.out
        have h2 := HQ.out
        rw [h1] at h2
        exact ⟨ret_bool (by simpa [hi] using h2), rfl⟩
      · go_wp2_with (go_at_call 35; refine (indexByte_any _ _ _).mono ?_; rintro e w' ⟨rfl, rfl⟩; rw [HX.out])
        go_round
        case rel => exact ⟨k + 1, by omega, by go_num, by have h1 := H0.out; have h2 := HQ.out; rw [h1] at h2; show _ = _; simpa [show decide (ix < 0) = false from by simpa using hi] using h2⟩
        case measure => simp [intOf]; omega
    · go_wp2
      go_ret
      have hr := HR.out
      rw [drop_end s k (by omega)] at hr
      exact ⟨ret_bool hr, rfl⟩
theorem only_row (s : ByteArray) (w : World) (hs : s.size ≤ maxLen) :
    Calls Tryd.prog 19 #[.string s, .string ⟨#[48, 49]⟩] w fun e w' => e = .returned (.bool (rowB (nums s))) ∧ w = w' :=
  only_any s ⟨#[48, 49]⟩ (fun x => x == 48 || x == 49) idx_row w hs
theorem only_lev (s : ByteArray) (w : World) (hs : s.size ≤ maxLen) :
    Calls Tryd.prog 19 #[.string s, .string ⟨#[74, 75]⟩] w fun e w' => e = .returned (.bool (levB (nums s))) ∧ w = w' :=
  only_any s ⟨#[74, 75]⟩ lev idx_lev w hs
theorem Other_any (c : Int) (w : World) :
    Calls Tryd.prog 32 #[.int .u8 c] w fun e w' => e = .returned (.int .u8 (oth c)) ∧ w = w' := by
  by_cases h : c = 74
  · subst h
    go_enter Tryd.func32, Tryd.ntmps32
    go_wp2
    go_ret
    exact ⟨rfl, rfl⟩
  · have h1 : (c == 74) = false := by simpa using h
    have e : oth c = 74 := by simp [oth, h]
    rw [e]
    go_enter Tryd.func32, Tryd.ntmps32
    go_wp2
    go_ret
    exact ⟨rfl, rfl⟩
end Go.Proofs.YtbkdalgmhmaofaaDoor.lane
