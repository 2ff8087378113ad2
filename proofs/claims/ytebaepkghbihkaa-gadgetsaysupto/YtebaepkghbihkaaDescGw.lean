/- desc: what word answers. -/
import Derived.Test.YtebaepkghbihkaaDescD
import Derived.Laws.BitsAllLaws
import Derived.Laws.BitsLemmas
import Derived.Deep.QuietTactic
import Derived.BigQuiet
import Derived.Laws.Strings2
namespace Go.Proofs.Ytebaepkghbihkaa.desc
open Go.RowKit Go.PlainAid Go.Proofs.Ytebaepkghbihkaa.lane
set_option linter.unusedVariables false

theorem or_low (k : IntKind) (j i x y : Nat) (c d : Int) (hj : j ≤ k.bits) (hk : ∀ n : Int, 0 ≤ n → n < 2 ^ j → k.wrap n = n) (hx : x < 2 ^ i) (hxj : x < 2 ^ j) (hy : y % 2 ^ i = 0) (hyj : y < 2 ^ j)
    (hc : c = (x : Int)) (hd : d = (y : Int)) : bits .or k c d = ((x + y : Nat) : Int) := by
  subst hc hd
  rw [(bits_nat k j hj hk x y hxj hyj).2, Nat.or_comm, nat_join i y x hy hx, Nat.add_comm]
theorem wraps_i64 (n : Int) (h₀ : 0 ≤ n) (h₁ : n < 2 ^ 32) : IntKind.i64.wrap n = n := by rw [IntKind.wrap_i64]; omega
/-- the word at the front of a text -/
def wdOf (t : ByteArray) : Int := bt t 0 + 256 * bt t 1
set_option maxHeartbeats 400000 in
theorem word_any (s : ByteArray) (w : World) (hs : 2 ≤ s.size) :
    Calls Try.prog 42 #[.string s] w fun e w' => e = .returned (.int .i64 (wdOf s)) ∧ ∃ q, w' = w.drewN q := by
  have hb := get_bt s
  have b0 := bt_nonneg s 0
  have b1 := bt_le s 0
  have c0 := bt_nonneg s 1
  have c1 := bt_le s 1
  have e3 := or_low .i64 32 8 (bt s 0).toNat (256 * (bt s 1).toNat) (bt s 0) (bt s 1 * 256) (by decide) wraps_i64 (by omega) (by omega) (by omega) (by omega) (by omega) (by omega)
  have e0 : (((bt s 0).toNat + 256 * (bt s 1).toNat : Nat) : Int) = wdOf s := by unfold wdOf; omega
  rw [e0] at e3
  clear e0
  generalize wdOf s = N at *
  go_enter Try.func42, Try.ntmps42
  go_wp2_with fail
  go_quiet (fail)
  go_wp2
  go_ret
  exact ⟨rfl, _, rfl⟩
theorem bt_extract (s : ByteArray) (k j : Nat) (h : k + j < s.size) : bt (s.extract k s.size) j = bt s (k + j) := by
  have hz : (s.extract k s.size).size = s.size - k := by rw [ByteArray.size_extract]; omega
  rw [bt_nums _ j (by omega), bt_nums _ (k + j) h, extract_rest]
  simp [List.getD, List.getElem?_drop]
theorem run_ix (s : ByteArray) (k : Nat) (h : k < s.size) (W : World) : (Instr.index 9 (.string s) (.int .i64 (k : Int))).run Try.prog W = .ok (.int .u8 (bt s k)) W := by
  have e : bt s k = ((s[k]'h).toNat : Int) := by unfold bt; rw [dif_pos h]
  rw [e]
  simp [Instr.index, asIntOf, run_underlying Try.underlying9, h, Result.andThen]
theorem run_cut (s : ByteArray) (k : Nat) (h : k ≤ s.size) (W : World) : (Instr.slice 9 (.string s) (some (.int .i64 (k : Int))) none none).run Try.prog W = .ok (.string (s.extract k s.size)) W := by
  have := run_slice_string_l (P := Try.prog) (w := W) 9 s Try.underlying9 .i64 (k : Int) (by omega) (by omega)
  rw [Int.toNat_natCast] at this
  exact this
end Go.Proofs.Ytebaepkghbihkaa.desc
