/- plugref's packet: what is and TwoBytes answer. -/
import Derived.Test.YtepifjimfcnggaaPackF
import Derived.Test.YtepifjimfcnggaaCrcT
import Derived.Laws.Externs
namespace Go.Proofs.Ytepifjimfcnggaa.pack
open Go.RowKit Go.PlainAid Go.Proofs.Ytepifjimfcnggaa.lane Go.Proofs.Ytepifjimfcnggaa.crc

theorem entry (args : Array Value) (w : World) : (callFunc 40 args).run Try.prog w = ((Extern.BytealgIndexByte.indexByte args).run Try.prog w).andThen fun v w' => .ok (.value v) w' :=
  run_callFunc_extern Try.func40 (by kernel_rfl) (by kernel_rfl) (by kernel_rfl) (by kernel_rfl) args w
theorem index_any (s : ByteArray) (c : Int) (w : World) :
    Calls Try.prog 29 #[.string s, .int .u8 c] w fun e w' => e = .returned (.int .i64 (firstIdx s c.toNat.toUInt8)) ∧ w' = w := by
  have h1 : ∀ w : World, (callFunc 40 #[.string s, .int .u8 c]).run Try.prog w = .ok (.value (.int .i64 (firstIdx s c.toNat.toUInt8))) w := by
    intro w; rw [entry, run_indexByte_string]; rfl
  have H2 : Hid (∀ w : World, Calls Try.prog 36 #[.string s, .int .u8 c] w fun e w' => e = .returned (.int .i64 (firstIdx s c.toNat.toUInt8)) ∧ w' = w) := by
    intro w
    go_enter Try.func36, Try.ntmps36
    go_wp2
    go_ret
    exact ⟨rfl, rfl⟩
  clear h1
  go_enter Try.func29, Try.ntmps29
  go_wp2_with fail
  refine (H2.out _).mono ?_
  rintro r u ⟨rfl, rfl⟩
  go_wp2
  go_ret
  exact ⟨rfl, rfl⟩
theorem is_any (k : Int) (s : ByteArray) (b : Bool) (h1 : 0 ≤ k → k < 16 → decide (0 ≤ firstIdx s k.toNat.toUInt8) = b) (h2 : ¬ (0 ≤ k ∧ k < 16) → b = false) (w : World) :
    Calls Try.prog 16 #[.int .i64 k, .string s] w fun e w' => e = .returned (.bool b) ∧ w' = w := by
  by_cases h : 0 ≤ k ∧ k < 16
  · obtain ⟨ha, hb⟩ := h
    have h1 := h1 ha hb
    have HI : Hid (∀ w : World, Calls Try.prog 29 #[.string s, .int .u8 k] w fun e w' => e = .returned (.int .i64 (firstIdx s k.toNat.toUInt8)) ∧ w' = w) := index_any s k
    generalize firstIdx s k.toNat.toUInt8 = q at *
    clear h2
    go_enter Try.func16, Try.ntmps16
    go_wp2_with fail
    refine (HI.out _).mono ?_
    rintro r u ⟨rfl, rfl⟩
    go_wp2
    go_ret
    exact ⟨rfl, rfl⟩
  · have h2 := h2 h
    subst h2
    clear h1
    have h' : k < 0 ∨ (0 ≤ k ∧ 16 ≤ k) := by omega
    clear h
    rcases h' with h' | ⟨h', h''⟩
    all_goals go_enter Try.func16, Try.ntmps16
    all_goals go_wp2
    all_goals go_ret
    all_goals exact ⟨rfl, rfl⟩
/-- is a kind one of these? -/
def isB (k : Int) (s : ByteArray) : Bool := decide (0 ≤ k) && (decide (k < 16) && decide (0 ≤ firstIdx s k.toNat.toUInt8))
theorem is_gen (k : Int) (s : ByteArray) (w : World) :
    Calls Try.prog 16 #[.int .i64 k, .string s] w fun e w' => e = .returned (.bool (isB k s)) ∧ w' = w := by
  refine is_any k s _ (fun ha hb => ?_) (fun h => ?_) w
  · unfold isB; rw [decide_eq_true ha, decide_eq_true hb, Bool.true_and, Bool.true_and]
  · unfold isB
    by_cases h0 : 0 ≤ k
    · rw [show decide (k < 16) = false by simp; omega]; simp
    · rw [show decide (0 ≤ k) = false by simpa using h0]; simp
theorem isB_case (s : ByteArray) (p : Int → Bool) (h : ∀ k : Fin 16, decide (0 ≤ firstIdx s k.val.toUInt8) = p k.val) (h2 : ∀ k, ¬ (0 ≤ k ∧ k < 16) → p k = false) (k : Int) : isB k s = p k := by
  unfold isB
  by_cases hk : 0 ≤ k ∧ k < 16
  · have := h ⟨k.toNat, by omega⟩
    simp only [Int.toNat_of_nonneg hk.1] at this
    rw [← this, decide_eq_true hk.1, decide_eq_true hk.2, Bool.true_and, Bool.true_and]
  · rw [h2 k hk]
    by_cases h0 : 0 ≤ k
    · rw [show decide (k < 16) = false by simp; omega]; simp
    · rw [show decide (0 ≤ k) = false by simpa using h0]; simp
theorem shp_out (k : Int) (h : ¬ (0 ≤ k ∧ k < 16)) : shp k = 0 := by
  rcases shp_vals k with h0 | h0
  · exact h0
  · have : shp k ≠ 0 := by omega
    have := shp_range this
    omega
theorem isB_tok (k : Int) : isB k ⟨#[1, 9, 13]⟩ = decide (shp k = 1) := isB_case ⟨#[1, 9, 13]⟩ (fun k => decide (shp k = 1)) (by decide +kernel) (fun k h => by simp [shp_out k h]) k
theorem isB_dat (k : Int) : isB k ⟨#[3, 11]⟩ = decide (shp k = 3) := isB_case ⟨#[3, 11]⟩ (fun k => decide (shp k = 3)) (by decide +kernel) (fun k h => by simp [shp_out k h]) k
theorem isB_bare (k : Int) : isB k ⟨#[2, 10, 14]⟩ = decide (shp k = 4) := isB_case ⟨#[2, 10, 14]⟩ (fun k => decide (shp k = 4)) (by decide +kernel) (fun k h => by simp [shp_out k h]) k
theorem isB_all (k : Int) : isB k ⟨#[1, 9, 13, 3, 11, 2, 10, 14, 5]⟩ = decide (shp k ≠ 0) := isB_case ⟨#[1, 9, 13, 3, 11, 2, 10, 14, 5]⟩ (fun k => decide (shp k ≠ 0)) (by decide +kernel) (fun k h => by simp [shp_out k h]) k
theorem twoBytes_any (n : Nat) (hn : n < 65536) (w : World) :
    Calls Try.prog 18 #[.int .i64 (n : Int)] w fun e w' => e = .returned (.string (strOfNums (two n))) ∧ w' = wtwo n w := by
  have hc := two_conv n hn w
  have he : (n : Int) / 256 % 256 = (n : Int) / 256 := by omega
  go_enter Try.func18, Try.ntmps18
  go_wp2
  go_ret
  exact ⟨rfl, rfl⟩
end Go.Proofs.Ytepifjimfcnggaa.pack
