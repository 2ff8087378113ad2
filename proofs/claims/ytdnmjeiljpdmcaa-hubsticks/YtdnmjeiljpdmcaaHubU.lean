/- how many bits are 1 (plugkeep's ones), for hubs; what a Change loses. -/
import Derived.Test.YtdnmjeiljpdmcaaHubN
import Derived.Test.YtdnmjeiljpdmcaaCrcM
namespace Go.Proofs.Ytdnmjeiljpdmcaa.hub
open Go Go.RowKit
open Go.PlainAid
open Go.Proofs.Ytdnmjeiljpdmcaa.slots (cl cl_at)
open Go.Proofs.Ytdnmjeiljpdmcaa.lane (nums bt_nums)
open Go.Proofs.Ytdnmjeiljpdmcaa.crc (pop pop_and)
open Go.Proofs.Ytdnmjeiljpdmcaa.setup (rK rN rC rC_zero rC_bad hit)
set_option linter.unusedVariables false
set_option linter.unusedSimpArgs false

theorem and_u64 (a b : Nat) (c d : Int) (ha : a < 18446744073709551616) (hb : b < 18446744073709551616) (hc : c = (a : Int)) (hd : d = (b : Int)) : bits BinOp.and IntKind.u64 c d = ((a &&& b : Nat) : Int) := by
  subst hc hd; exact u64_and_nat a b ha hb
theorem pop_le (k n : Nat) : pop k n ≤ k := by
  induction k generalizing n with
  | zero => exact Nat.le_refl _
  | succ k ih => have := ih (n / 2); rw [pop]; omega
theorem pop_zero (k : Nat) : pop k 0 = 0 := by
  induction k with
  | zero => rfl
  | succ k ih => rw [pop, Nat.zero_div, ih]
theorem ret_i64n {a b : Nat} (h : a = b) : Ending.returned (.int .i64 (a : Int)) = .returned (.int .i64 (b : Int)) := by rw [h]
set_option maxHeartbeats 400000 in
theorem ones_any (n : Nat) (hn : n < 18446744073709551616) (w : World) :
    Calls Try.prog 20 #[.int .u64 (n : Int)] w fun e w' => e = .returned (.int .i64 (pop 64 n : Nat)) ∧ w = w' := by
  go_enter Try.func20, Try.ntmps20
  go_wp2
  go_loop [0, 3] (fun nv kv => ∃ m k : Nat, m < 18446744073709551616 ∧ k ≤ 64 ∧ nv = .int .u64 (m : Int) ∧ kv = .int .i64 (k : Int) ∧ Hid (k + pop 64 m = pop 64 n)) (fun nv _ => (intOf nv).toNat)
  case atStart => exact ⟨n, 0, hn, by omega, rfl, rfl, Nat.zero_add _⟩
  case round =>
    obtain ⟨m, k, hm, hk, rfl, rfl, HR⟩ := hrel
    by_cases h0 : 0 < m
    · have e1 := and_u64 m (m - 1) (m : Int) ((m : Int) - 1) hm (by omega) rfl (by omega)
      have hp := pop_and 64 m h0 hm
      have hle : m &&& (m - 1) ≤ m - 1 := Nat.and_le_right
      obtain ⟨q, hq⟩ : ∃ q, q = m &&& (m - 1) := ⟨_, rfl⟩
      rw [← hq] at hp hle e1
      have hk2 : k + 1 ≤ 64 := by have h1 := HR.out; have h2 := pop_le 64 n; omega
      have H2 : Hid (k + 1 + pop 64 q = pop 64 n) := by show _ = _; have h := HR.out; omega
      clear hp HR hq
      go_wp2
      go_round
      case rel => exact ⟨q, k + 1, by omega, hk2, rfl, by go_num, H2⟩
      case measure => simp [intOf]; omega
    · obtain rfl : m = 0 := by omega
      go_wp2
      go_ret
      have h := HR.out
      rw [pop_zero, Nat.add_zero] at h
      exact ⟨ret_i64n h, rfl⟩
/-- what is lost of c where d is left -/
abbrev gone (c d : Int) : Int := bits .andNot .i64 c d
theorem gone_self {c : Int} (h : chB c = true) : gone c c = 0 := by
  rcases chB_iff.1 h with rfl | rfl | rfl | rfl | rfl | rfl | rfl | rfl <;> decide
theorem gone_plg {s c : Int} {t : Bool} (h : rgt s c = true) : gone c (plgC s c t) = 0 := by
  obtain ⟨hs, hc⟩ := rgt_iff.1 h
  rcases stB_iff.1 hs with rfl | rfl | rfl | rfl | rfl <;> cases t <;> rcases chB_iff.1 hc with rfl | rfl | rfl | rfl | rfl | rfl | rfl | rfl <;> decide
theorem gone_tick {s c : Int} (h : rgt s c = true) : gone c (tC s c) = 0 := by
  obtain ⟨hs, hc⟩ := rgt_iff.1 h
  rcases stB_iff.1 hs with rfl | rfl | rfl | rfl | rfl <;> rcases chB_iff.1 hc with rfl | rfl | rfl | rfl | rfl | rfl | rfl | rfl <;> decide
theorem gone_less {c b : Int} (h : chB c = true) (hb : b = 1 ∨ b = 2 ∨ b = 16) : gone (less c b) c = 0 ∧ (gone c (less c b) = 0 ∨ gone c (less c b) = b) := by
  rcases hb with rfl | rfl | rfl <;> rcases chB_iff.1 h with rfl | rfl | rfl | rfl | rfl | rfl | rfl | rfl <;> decide
theorem gone_dn {c v : Int} {on : Bool} (h : chB c = true) : gone (dnC on v c) c = 0 ∧ (gone c (dnC on v c) = 0 ∨ (on = false ∧ (gone c (dnC on v c) = 1 ∨ gone c (dnC on v c) = 2 ∨ gone c (dnC on v c) = 16))) := by
  cases on
  · unfold dnC
    rw [if_neg (by decide)]
    by_cases h1 : v = 16
    · rw [if_pos h1]
      have := gone_less h (.inl rfl)
      exact ⟨this.1, this.2.imp id fun z => ⟨rfl, .inl z⟩⟩
    · rw [if_neg h1]
      by_cases h2 : v = 17
      · rw [if_pos h2]
        have := gone_less h (.inr (.inl rfl))
        exact ⟨this.1, this.2.imp id fun z => ⟨rfl, .inr (.inl z)⟩⟩
      · rw [if_neg h2]
        by_cases h3 : v = 20
        · rw [if_pos h3]
          have := gone_less h (.inr (.inr rfl))
          exact ⟨this.1, this.2.imp id fun z => ⟨rfl, .inr (.inr z)⟩⟩
        · rw [if_neg h3]; exact ⟨gone_self h, .inl (gone_self h)⟩
  · have e : dnC true v c = c := rfl
    rw [e]; exact ⟨gone_self h, .inl (gone_self h)⟩
/-- what a plug, a tick, an ask leave of a Change -/
theorem sticks {F : List Int} (h : Ok F) (n : Int) (t : Bool) (q : ByteArray) {k : Nat} (hk : k < 16) :
    gone (chg F k) (chg (plugV F n t) k) = 0 ∧ gone (chg F k) (chg (tickV F) k) = 0 ∧ gone (chg (ctlV F (qs q)) k) (chg F k) = 0 ∧ (gone (chg F k) (chg (ctlV F (qs q)) k) = 0 ∨ gone (chg F k) (chg (ctlV F (qs q)) k) = 1 ∨ gone (chg F k) (chg (ctlV F (qs q)) k) = 2 ∨ gone (chg F k) (chg (ctlV F (qs q)) k) = 16) := by
  have hr := h.rgt hk
  have hc := (rgt_iff.1 hr).2
  refine ⟨?_, ?_, ?_⟩
  · by_cases h0 : plugC F n = 0
    · obtain ⟨j, _, hj, rfl, _, _, _⟩ := plugC_zero h.len h0
      rw [plugV_eq h0, setP_chg h.len hj]
      by_cases e : k = j
      · subst e; rw [if_pos rfl]; exact gone_plg hr
      · rw [if_neg e]; exact gone_self hc
    · rw [plugV_bad h0]; exact gone_self hc
  · rw [(tick_at h hk).2]; exact gone_tick hr
  · by_cases h0 : askE F (qs q) ≠ 0 ∨ rK q = 8
    · rw [ctlV_none h0]; exact ⟨gone_self hc, .inl (gone_self hc)⟩
    · obtain ⟨i, hi, _, _, _, hv, _⟩ := ctlV_eq (t := q) h.len (by omega) (fun z => h0 (.inr z))
      rw [hv, setP_chg h.len hi]
      by_cases e : k = i
      · subst e
        rw [if_pos rfl]
        obtain ⟨g1, g2⟩ := gone_dn (on := (rK q == 9)) (v := rN q 2) hc
        exact ⟨g1, g2.imp id fun z => z.2⟩
      · rw [if_neg e]; exact ⟨gone_self hc, .inl (gone_self hc)⟩
/-- where something is lost, it was asked for -/
theorem lost_ask {F : List Int} (h : Ok F) {q : ByteArray} {k : Nat} (hk : k < 16) (hl : gone (chg F k) (chg (ctlV F (qs q)) k) ≠ 0) : ctlE F (qs q) = 0 ∧ q.size = 8 ∧ bt q 1 = 1 := by
  have hr := h.rgt hk
  have hc := (rgt_iff.1 hr).2
  by_cases h0 : askE F (qs q) ≠ 0 ∨ rK q = 8
  · rw [ctlV_none h0] at hl; exact absurd (gone_self hc) hl
  have he : ctlE F (qs q) = 0 := by
    by_cases z : ctlE F (qs q) = 0
    · exact z
    · rw [ctl_bad h.len z] at hl; exact absurd (gone_self hc) hl
  obtain ⟨_, _, _, _, _, _, hC, hk1, hk2⟩ := ctl_port (t := q) h.len (by omega)
  obtain ⟨i, hi, _, _, _, hv, _⟩ := ctlV_eq (t := q) h.len (by omega) (fun z => h0 (.inr z))
  rw [hv, setP_chg h.len hi] at hl
  by_cases e : k = i
  · subst e
    rw [if_pos rfl] at hl
    obtain ⟨_, g2⟩ := gone_dn (on := (rK q == 9)) (v := rN q 2) hc
    rcases g2 with g2 | ⟨g3, _⟩
    · exact absurd g2 hl
    · have h10 : rK q = 10 := by
        have : ¬ rK q = 9 := by simpa using g3
        have : ¬ rK q = 8 := fun z => h0 (.inr z)
        omega
      obtain ⟨h8, _, hh⟩ := rC_zero hC
      refine ⟨he, h8, ?_⟩
      unfold hit at hh
      rw [Bool.and_eq_true, decide_eq_true_iff, h10] at hh
      rw [bt_nums q 1 (by omega), ← hh.2]
      rfl
  · rw [if_neg e] at hl; exact absurd (gone_self hc) hl
/-- at most one thing is lost -/
theorem lost_one {F : List Int} (h : Ok F) (q : ByteArray) : cntF (fun k => decide (k < 16) && decide (gone (chg F k) (chg (ctlV F (qs q)) k) ≠ 0)) 16 ≤ 1 := by
  obtain ⟨i, _, hi⟩ := ctl_one (t := q) h
  refine cntF_one (i := i) (fun j hj => ?_) 16
  by_cases hlt : j < 16
  · rw [(hi j hj).2, gone_self (rgt_iff.1 (h.rgt hlt)).2]; simp
  · simp [hlt]
end Go.Proofs.Ytdnmjeiljpdmcaa.hub
