/- packet: what the small functions answer: shapeOf, within, sizes, firstByte, word, number, sealed, placed. -/
import Derived.Test.YtepifjimfcnggaaRows
import Derived.Test.YtepifjimfcnggaaPackM
import Derived.Test.YtepifjimfcnggaaCrcA
import Derived.WalkKit
import Derived.Handy
import Derived.Below
import Derived.WalkSmall
import Derived.Laws.BitsAllLaws
import Derived.Laws.BitsLemmas
import Derived.Laws.StructEq
import Derived.Laws.BytesArg
import Derived.Deep.QuietTactic
import Derived.BigQuiet
import Derived.Deep.RegionWith
namespace Go.Proofs.Ytepifjimfcnggaa.pack
open Go.RowKit Go.PlainAid Go.Proofs.Ytepifjimfcnggaa.lane Go.Proofs.Ytepifjimfcnggaa.crc

theorem or_low (k : IntKind) (j i x y : Nat) (c d : Int) (hj : j ≤ k.bits) (hk : ∀ n : Int, 0 ≤ n → n < 2 ^ j → k.wrap n = n) (hx : x < 2 ^ i) (hxj : x < 2 ^ j) (hy : y % 2 ^ i = 0) (hyj : y < 2 ^ j)
    (hc : c = (x : Int)) (hd : d = (y : Int)) : bits .or k c d = ((x + y : Nat) : Int) := by
  subst hc hd
  rw [(bits_nat k j hj hk x y hxj hyj).2, Nat.or_comm, nat_join i y x hy hx, Nat.add_comm]
theorem wraps_i64 (n : Int) (h₀ : 0 ≤ n) (h₁ : n < 2 ^ 32) : IntKind.i64.wrap n = n := by rw [IntKind.wrap_i64]; omega
theorem wraps_u16 (n : Int) (h₀ : 0 ≤ n) (h₁ : n < 2 ^ 16) : IntKind.u16.wrap n = n := by rw [IntKind.wrap_u16]; omega
theorem ret_i64 {a b : Int} (h : a = b) : Ending.returned (.int .i64 a) = .returned (.int .i64 b) := by rw [h]

theorem within_any (n m : Int) (w : World) :
    Calls Try.prog 26 #[.int .i64 n, .int .i64 m] w fun e w' => e = .returned (.bool (decide (0 ≤ n) && decide (n ≤ m))) ∧ w' = w := by
  go_enter Try.func26, Try.ntmps26
  go_wp2
  · rename_i h
    go_ret
    rw [show decide (0 ≤ n) = true by simpa using h, Bool.true_and]
    exact ⟨rfl, rfl⟩
  · rename_i h
    go_ret
    rw [show decide (0 ≤ n) = false by simp; omega, Bool.false_and]
    exact ⟨rfl, rfl⟩
theorem shape_any (k : Int) (w : World) :
    Calls Try.prog 21 #[.int .i64 k] w fun e w' => e = .returned (.int .i64 (shp k)) ∧ w' = w := by
  go_enter Try.func21, Try.ntmps21
  go_wp2
  all_goals go_ret
  all_goals (refine ⟨ret_i64 ?_, rfl⟩; unfold shp; repeat' split)
  all_goals first | rfl | (simp only [beq_iff_eq, beq_eq_false_iff_ne, ne_eq] at *; omega)
theorem sizes_tok (s : Int) (h : s = 1 ∨ s = 2) (w : World) :
    Calls Try.prog 27 #[.int .i64 s] w fun e w' => e = .returned (.tuple #[.int .i64 2, .int .i64 2]) ∧ w' = w := by
  rcases h with rfl | rfl
  all_goals go_enter Try.func27, Try.ntmps27
  all_goals go_wp2
  all_goals go_ret2
  all_goals exact ⟨rfl, rfl⟩
theorem sizes_dat (w : World) :
    Calls Try.prog 27 #[.int .i64 3] w fun e w' => e = .returned (.tuple #[.int .i64 2, .int .i64 66]) ∧ w' = w := by
  go_enter Try.func27, Try.ntmps27
  go_wp2
  go_ret2
  exact ⟨rfl, rfl⟩
theorem sizes_bare (w : World) :
    Calls Try.prog 27 #[.int .i64 4] w fun e w' => e = .returned (.tuple #[.int .i64 0, .int .i64 0]) ∧ w' = w := by
  go_enter Try.func27, Try.ntmps27
  go_wp2
  go_ret2
  exact ⟨rfl, rfl⟩
theorem xor15 : ∀ k : Fin 16, k.val ^^^ 15 = 15 - k.val := by decide
theorem first_any (k : Nat) (hk : k < 16) (w : World) :
    Calls Try.prog 20 #[.int .i64 (k : Int)] w fun e w' => e = .returned (.int .u8 (fb k)) ∧ w' = w := by
  have e1 := u8_and15 (k : Int) (by omega) (by omega)
  rw [show (k : Int) % 16 = k by omega] at e1
  have e2 := xor_u8 k 15 (k : Int) 15 (by omega) (by decide) rfl rfl
  rw [xor15 ⟨k, hk⟩] at e2
  have e3 := or_low .u8 8 4 k (16 * (15 - k)) (k : Int) (((15 - k : Nat) : Int) * 16) (by decide) wraps_u8 (by omega) (by omega) (by omega) (by omega) rfl (by omega)
  rw [show ((k + 16 * (15 - k) : Nat) : Int) = fb k by unfold fb; omega] at e3
  go_enter Try.func20, Try.ntmps20
  go_wp2
  go_ret
  exact ⟨rfl, rfl⟩
/-- the world behind a text of two bytes -/
abbrev wtwo (n : Nat) (w : World) : World := w.alloc (.cells #[.int .u8 ((n : Int) % 256), .int .u8 ((n : Int) / 256)] 5)
theorem two_conv (n : Nat) (hn : n < 65536) (w : World) :
    (convert 35 9 (.slice (some ⟨w.heap.size, 0, none⟩) 2 2)).run Try.prog (wtwo n w) = .ok (.string (strOfNums (two n))) (wtwo n w) := by
  refine run_convert_bytes_arg _ 35 5 Try.underlying35 Try.underlying5 w.heap.size 0 2 2 (two n) rfl ?_ 9 Try.underlying9
  intro i hi
  match i, hi with
  | 0, _ => simp [two, wtwo]
  | 1, _ => simp [two, wtwo]; omega
theorem word_any (n : Nat) (hn : n < 65536) (w : World) :
    Calls Try.prog 23 #[.int .u16 (n : Int)] w fun e w' => e = .returned (.string (strOfNums (two n))) ∧ w' = wtwo n w := by
  have hc := two_conv n hn w
  go_enter Try.func23, Try.ntmps23
  go_wp2
  go_ret
  exact ⟨rfl, rfl⟩
theorem nums_two (s : ByteArray) (hs : s.size = 2) : nums s = [bt s 0, bt s 1] := by
  have h0 := drop_nums s 0 (by omega)
  rw [List.drop_zero, drop_nums s 1 (by omega), drop_end s 2 (by omega)] at h0
  exact h0
theorem number_any (s : ByteArray) (hs : s.size = 2) (w : World) :
    Calls Try.prog 35 #[.string s] w fun e w' => e = .returned (.int .i64 (txt (nums s) : Nat)) ∧ ∃ q, w' = w.drewN q := by
  have hb := get_bt s
  have b0 := bt_nonneg s 0
  have b1 := bt_le s 0
  have c0 := bt_nonneg s 1
  have c1 := bt_le s 1
  have e0 : txt (nums s) = (bt s 0).toNat + 256 * (bt s 1).toNat := by rw [nums_two s hs]; simp [txt]
  have e3 := or_low .i64 32 8 (bt s 0).toNat (256 * (bt s 1).toNat) (bt s 0) (bt s 1 * 256) (by decide) wraps_i64 (by omega) (by omega) (by omega) (by omega) (by omega) (by omega)
  rw [← e0] at e3
  clear e0
  generalize txt (nums s) = N at *
  go_enter Try.func35, Try.ntmps35
  go_wp2_with fail
  go_quiet (fail)
  go_wp2
  go_ret
  exact ⟨rfl, _, rfl⟩
theorem sealed_any (n : Nat) (hn : n < 2048) (w : World) :
    Calls Try.prog 22 #[.int .i64 (n : Int)] w fun e w' => e = .returned (.string (strOfNums (sealw n))) ∧ w' = wtwo (n + 2048 * five n) w := by
  have hf := five_lt n
  have e3 := or_low .u16 16 11 n (2048 * five n) (n : Int) ((five n : Int) * 2048) (by decide) wraps_u16 (by omega) (by omega) (by omega) (by omega) rfl (by omega)
  have H5 : Hid (∀ w : World, Calls Try.prog 33 #[.int .u16 (n : Int)] w fun e w' => e = .returned (.tuple #[.int .u8 (five n : Nat), .int .i64 0]) ∧ w = w') := five_ok n hn
  have HW : Hid (∀ w : World, Calls Try.prog 23 #[.int .u16 ((n + 2048 * five n : Nat) : Int)] w fun e w' => e = .returned (.string (strOfNums (sealw n))) ∧ w' = wtwo (n + 2048 * five n) w) := word_any (n + 2048 * five n) (by omega)
  generalize five n = f at *
  go_enter Try.func22, Try.ntmps22
  go_wp2_with fail
  refine (H5.out _).mono ?_
  rintro e u1 ⟨rfl, rfl⟩
  go_wp2_with fail
  refine (HW.out _).mono ?_
  rintro e u1 ⟨rfl, rfl⟩
  go_wp2
  go_ret
  exact ⟨rfl, rfl⟩
/-- a packet's value -/
abbrev pk (k a e f : Int) (d : ByteArray) : Value := .agg #[.int .i64 k, .int .i64 a, .int .i64 e, .int .i64 f, .string d]
abbrev pcells (k a e f : Int) (d : ByteArray) : Obj := .cells #[.int .i64 k, .int .i64 a, .int .i64 e, .int .i64 f, .string d] 23
abbrev wplaced (k a e f : Int) (d : ByteArray) (a' e' f' : Int) (d' : ByteArray) (w : World) : World := (w.alloc (pcells k a e f d)).alloc (pcells k a' e' f' d')
theorem placed_tok (k a e f : Int) (d : ByteArray) (w : World) :
    Calls Try.prog 25 #[pk k a e f d, .int .i64 1] w fun e' w' => e' = .returned (pk k a e 0 ⟨#[]⟩) ∧ w' = wplaced k a e f d a e 0 ⟨#[]⟩ w := by
  go_enter Try.func25, Try.ntmps25
  go_wp2
  refine bodyPost_ret (v := pk k a e 0 ⟨#[]⟩) (by simp [results, Try.results25, go_sem]) rfl ⟨rfl, rfl⟩
theorem placed_frm (k a e f : Int) (d : ByteArray) (w : World) :
    Calls Try.prog 25 #[pk k a e f d, .int .i64 2] w fun e' w' => e' = .returned (pk k 0 0 f ⟨#[]⟩) ∧ w' = wplaced k a e f d 0 0 f ⟨#[]⟩ w := by
  go_enter Try.func25, Try.ntmps25
  go_wp2
  refine bodyPost_ret (v := pk k 0 0 f ⟨#[]⟩) (by simp [results, Try.results25, go_sem]) rfl ⟨rfl, rfl⟩
theorem placed_dat (k a e f : Int) (d : ByteArray) (w : World) :
    Calls Try.prog 25 #[pk k a e f d, .int .i64 3] w fun e' w' => e' = .returned (pk k 0 0 0 d) ∧ w' = wplaced k a e f d 0 0 0 d w := by
  go_enter Try.func25, Try.ntmps25
  go_wp2
  refine bodyPost_ret (v := pk k 0 0 0 d) (by simp [results, Try.results25, go_sem]) rfl ⟨rfl, rfl⟩
theorem placed_bare (k a e f : Int) (d : ByteArray) (w : World) :
    Calls Try.prog 25 #[pk k a e f d, .int .i64 4] w fun e' w' => e' = .returned (pk k 0 0 0 ⟨#[]⟩) ∧ w' = wplaced k a e f d 0 0 0 ⟨#[]⟩ w := by
  go_enter Try.func25, Try.ntmps25
  go_wp2
  refine bodyPost_ret (v := pk k 0 0 0 ⟨#[]⟩) (by simp [results, Try.results25, go_sem]) rfl ⟨rfl, rfl⟩
theorem und : Try.prog.underlying 23 = some (.struct (Try.prog.fieldsOf 23)) := by kernel_rfl
theorem stood : Try.prog.stoodInHeld 23 = false := by kernel_rfl
theorem guardT : Try.prog.eqGuardType Try.prog.depth 23 = false := by kernel_rfl
/-- are two packets alike? -/
def same (k a e f : Int) (d : ByteArray) (k' a' e' f' : Int) (d' : ByteArray) : Bool := k == k' && (a == a' && (e == e' && (f == f' && d.toList == d'.toList)))
theorem eq_pk (k a e f : Int) (d : ByteArray) (k' a' e' f' : Int) (d' : ByteArray) (w : World) :
    (Op.equalIn 10000 23 (pk k a e f d) (pk k' a' e' f' d')).run Try.prog w = .ok (same k a e f d k' a' e' f' d') w := by
  rw [run_equalIn_struct w 9999 23 _ _ und stood]
  simp [go_sem]
  unfold same
  by_cases h1 : k = k' <;> by_cases h2 : a = a' <;> by_cases h3 : e = e' <;> by_cases h4 : f = f' <;> by_cases h5 : d.toList = d'.toList <;> simp [h1, h2, h3, h4, h5]
theorem eql_pk (k a e f : Int) (d : ByteArray) (k' a' e' f' : Int) (d' : ByteArray) (w : World) :
    (binOp .eql 23 (pk k a e f d) (pk k' a' e' f' d')).run Try.prog w = .ok (.bool (same k a e f d k' a' e' f' d')) w := by
  rw [run_eql_struct, eq_pk]; rfl
theorem neq_pk (k a e f : Int) (d : ByteArray) (k' a' e' f' : Int) (d' : ByteArray) (w : World) :
    (binOp .neq 23 (pk k a e f d) (pk k' a' e' f' d')).run Try.prog w = .ok (.bool (!same k a e f d k' a' e' f' d')) w := by
  rw [run_neq_struct, eq_pk]; rfl
theorem toList_inj (d d' : ByteArray) : d.toList = d'.toList ↔ nums d = nums d' := by
  rw [ByteArray.toList_eq, ByteArray.toList_eq]
  constructor
  · intro h; unfold nums; rw [h]
  · intro h
    have := congrArg strOfNums h
    rw [str_nums, str_nums] at this
    rw [this]
theorem nums_nil : nums ⟨#[]⟩ = [] := rfl
theorem same_iff (k a e f : Int) (d : ByteArray) (k' a' e' f' : Int) (d' : ByteArray) : same k a e f d k' a' e' f' d' = true ↔ k = k' ∧ a = a' ∧ e = e' ∧ f = f' ∧ nums d = nums d' := by
  unfold same
  rw [← toList_inj]
  simp only [Bool.and_eq_true, beq_iff_eq]
theorem placed_any (k a e f : Int) (d : ByteArray) (h : shp k ≠ 0) :
    ∃ (a' e' f' : Int) (d' : ByteArray), (∀ w : World, Calls Try.prog 25 #[pk k a e f d, .int .i64 (shp k)] w fun r w' => r = .returned (pk k a' e' f' d') ∧ w' = wplaced k a e f d a' e' f' d' w) ∧
      (same k a e f d k a' e' f' d' = true ↔ plc k a e f (nums d)) := by
  rcases shp_cases h with ⟨c, _⟩ | ⟨c, _⟩ | ⟨c, _⟩ | ⟨c, _⟩
  · rw [c]
    refine ⟨_, _, _, _, placed_tok k a e f d, ?_⟩
    rw [same_iff, nums_nil]; unfold plc
    simp [c]
  · rw [c]
    refine ⟨_, _, _, _, placed_frm k a e f d, ?_⟩
    rw [same_iff, nums_nil]; unfold plc
    simp [c]
  · rw [c]
    refine ⟨_, _, _, _, placed_dat k a e f d, ?_⟩
    rw [same_iff]; unfold plc
    simp [c]
  · rw [c]
    refine ⟨_, _, _, _, placed_bare k a e f d, ?_⟩
    rw [same_iff, nums_nil]; unfold plc
    simp [c]
end Go.Proofs.Ytepifjimfcnggaa.pack
