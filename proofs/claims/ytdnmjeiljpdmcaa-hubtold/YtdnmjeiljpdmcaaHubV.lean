/- plugkeep's hub: asks that are written; a hub of which one port has something. -/
import Derived.Test.YtdnmjeiljpdmcaaHubL
namespace Go.Proofs.Ytdnmjeiljpdmcaa.hub
open Go Go.RowKit
open Go.Proofs.Ytdnmjeiljpdmcaa.slots (cl cl_at cl_set cl_ext allF allF_step allF_end allF_iff anyF)
open Go.PlainAid
open Go.Proofs.Ytdnmjeiljpdmcaa.lane (nums)
open Go.Proofs.Ytdnmjeiljpdmcaa.setup (rK rN rC wrT wrC good write_read write_any fitB isK inS inS_iff)
set_option linter.unusedVariables false
set_option linter.unusedSimpArgs false
set_option maxRecDepth 100000

theorem asked_any (k v i l : Int) (hi : -9223372036854775808 ≤ i ∧ i ≤ 9223372036854775807) (w : World) :
    Calls Try.prog 21 #[.int .i64 k, .int .i64 v, .int .i64 i, .int .i64 l] w fun e w' => e = .returned (.string (wrT k v i l)) ∧ Below w.heap.size w w' := by
  have HW : Hid (∀ u : World, Calls Try.prog 36 #[setup.ask k v i l] u fun r w' => r = .returned (.tuple #[.string (wrT k v i l), .int .i64 (wrC k v i l)]) ∧ Below u.heap.size u w') := write_any k v i l hi
  clear hi
  generalize wrT k v i l = t at *
  generalize wrC k v i l = z at *
  go_enter Try.func21, Try.ntmps21
  go_wp2_with fail
  refine (HW.out _).mono ?_
  rintro e u ⟨rfl, hb⟩
  go_wp2
  go_ret
  exact ⟨rfl, hb⟩
/-- an ask about a port that can be asked -/
theorem good_port {k v i l : Int} (hk : k = 8 ∧ v = 0 ∧ l = 4 ∨ (k = 9 ∨ k = 10) ∧ (0 ≤ v ∧ v ≤ 31) ∧ l = 0) (h1 : 1 ≤ i) (h2 : i ≤ 15) : good k v i l = true := by
  unfold good
  rw [Bool.and_eq_true]
  rcases hk with ⟨rfl, rfl, rfl⟩ | ⟨rfl | rfl, ⟨h3, h4⟩, rfl⟩
  all_goals
    refine ⟨rfl, ?_⟩
    unfold fitB
    rw [Bool.and_eq_true, Bool.and_eq_true, inS_iff, inS_iff]
    simp [setup.te, inS, setup.col, setup.row]
    omega
theorem asked_qs {k v i l : Int} (h : good k v i l = true) : qs (wrT k v i l) = ⟨0, k, v, i⟩ ∧ (wrT k v i l).size = 8 := by
  obtain ⟨e1, e2, e3, _, e5, e6⟩ := write_read h
  unfold qs
  rw [e1, e2, e3, e5]
  exact ⟨rfl, e6⟩
/-- what an ask about a port comes to -/
theorem ask_zero {F : List Int} (h : Ok F) {k v : Int} {i : Nat} (hk : 8 ≤ k ∧ k ≤ 10) (hp : isP F (i : Int) = true) : askE F ⟨0, k, v, (i : Int)⟩ = 0 := by
  unfold askE
  rw [if_neg (fun z => z h.chk), if_neg (fun z => z rfl), if_neg (fun z => z hk), if_neg (by have := isP_iff.1 hp; show ¬ cn F < (i : Int); omega)]
theorem ctl_8 {F : List Int} (h : Ok F) {v : Int} {i : Nat} (hp : isP F (i : Int) = true) : ctlV F ⟨0, 8, v, (i : Int)⟩ = F ∧ ctlE F ⟨0, 8, v, (i : Int)⟩ = 0 ∧ ctlT F ⟨0, 8, v, (i : Int)⟩ = [sta F i % 256, sta F i / 256, chg F i % 256, chg F i / 256] := by
  have h0 := ask_zero h (k := 8) (v := v) (by omega) hp
  refine ⟨by unfold ctlV; rw [if_pos (.inr rfl)], by unfold ctlE; rw [if_neg (fun z => z h0), if_pos rfl], ?_⟩
  unfold ctlT; rw [if_neg (by rintro (q | q); exact q h0; exact q rfl), Int.toNat_natCast]
theorem ctl_9 {F : List Int} (h : Ok F) {k v : Int} {i : Nat} (hk : k = 9 ∨ k = 10) (hp : isP F (i : Int) = true) : ctlV F ⟨0, k, v, (i : Int)⟩ = setP F i (dnS (k == 9) v (sta F i)) (dnC (k == 9) v (chg F i)) ∧ ctlE F ⟨0, k, v, (i : Int)⟩ = dnE (k == 9) v (sta F i) ∧ ctlT F ⟨0, k, v, (i : Int)⟩ = [] := by
  have h0 := ask_zero h (k := k) (v := v) (by omega) hp
  have h8 : ¬ k = 8 := by omega
  refine ⟨?_, ?_, ?_⟩
  · unfold ctlV; rw [if_neg (by rintro (q | q); exact q h0; exact h8 q), Int.toNat_natCast]
  · unfold ctlE; rw [if_neg (fun z => z h0), if_neg h8, Int.toNat_natCast]
  · unfold ctlT; rw [if_pos (.inr h8)]
theorem sta_hub0 (n : Int) (k : Nat) : sta (hub0 n) k = 0 ∧ chg (hub0 n) k = 0 := by
  unfold sta chg
  rw [cl_hub0, cl_hub0, if_neg (by omega), if_neg (by omega)]
  exact ⟨rfl, rfl⟩
theorem cn_hub0 (n : Int) : cn (hub0 n) = n := by unfold cn; rw [cl_hub0, if_pos rfl]
theorem hub0_ok {n : Int} (h1 : 1 ≤ n) (h2 : n ≤ 15) : Ok (hub0 n) := by
  refine ⟨hub0_len n, by rw [cn_hub0]; exact h1, by rw [cn_hub0]; exact h2, fun k _ => ?_⟩
  unfold okP
  rw [(sta_hub0 n k).1, (sta_hub0 n k).2]
  cases isP (hub0 n) (k : Int) <;> rfl
theorem hub0_chk {n : Int} (h : ¬ (1 ≤ n ∧ n ≤ 15)) : chk (hub0 n) = 1 := by
  unfold chk cnB
  rw [cn_hub0, if_pos (by simp; omega)]
/-- a hub of n ports of which port k alone has something -/
def oneP (n : Int) (k : Nat) (s c : Int) : List Int := setP (hub0 n) k s c
theorem oneP_zero {n : Int} {k : Nat} (hk : k < 16) : oneP n k 0 0 = hub0 n := by
  have := setP_self (hub0_len n) hk
  rw [(sta_hub0 n k).1, (sta_hub0 n k).2] at this
  exact this
theorem oneP_isP {n : Int} {k : Nat} (h1 : 1 ≤ (k : Int)) (h2 : (k : Int) ≤ n) (s c : Int) : isP (oneP n k s c) (k : Int) = true := by
  rw [isP_iff]; unfold oneP; rw [setP_cn, cn_hub0]; exact ⟨h1, h2⟩
theorem oneP_ok {n : Int} {k : Nat} (h1 : 1 ≤ (k : Int)) (h2 : (k : Int) ≤ n) (h3 : n ≤ 15) {s c : Int} (hr : rgt s c = true) : Ok (oneP n k s c) :=
  (hub0_ok (by omega) h3).set (by rw [isP_iff, cn_hub0]; exact ⟨h1, h2⟩) hr
theorem oneP_at {n : Int} {k : Nat} (hk : k < 16) (s c : Int) : sta (oneP n k s c) k = s ∧ chg (oneP n k s c) k = c := by
  unfold oneP
  rw [setP_sta (hub0_len n) hk, setP_chg (hub0_len n) hk, if_pos rfl, if_pos rfl]
  exact ⟨rfl, rfl⟩
theorem oneP_len (n : Int) (k : Nat) (s c : Int) : (oneP n k s c).length = 33 := by unfold oneP; rw [setP_len, hub0_len]
theorem oneP_set {n : Int} {k : Nat} (hk : k < 16) (s c s' c' : Int) : setP (oneP n k s c) k s' c' = oneP n k s' c' := setP_twice (hub0_len n) hk
theorem oneP_plug {n : Int} {k : Nat} (h1 : 1 ≤ (k : Int)) (h2 : (k : Int) ≤ n) (h3 : n ≤ 15) {s c : Int} (hr : rgt s c = true) (hs : s ≠ 0) (t : Bool) : plugV (oneP n k s c) (k : Int) t = oneP n k (plgS s t) (plgC s c t) ∧ plugC (oneP n k s c) (k : Int) = 0 := by
  have hk : k < 16 := by omega
  have hok := oneP_ok h1 h2 h3 hr
  have h0 : plugC (oneP n k s c) (k : Int) = 0 := by
    unfold plugC
    rw [if_neg (fun z => z hok.chk), if_neg (by rw [oneP_isP h1 h2]; decide), Int.toNat_natCast, (oneP_at hk s c).1, if_neg hs]
  exact ⟨by rw [plugV_eq h0, (oneP_at hk s c).1, (oneP_at hk s c).2, oneP_set hk], h0⟩
theorem oneP_plug0 {n : Int} {k : Nat} (h1 : 1 ≤ (k : Int)) (h2 : (k : Int) ≤ n) (h3 : n ≤ 15) (t : Bool) : plugV (oneP n k 0 0) (k : Int) t = oneP n k 0 0 ∧ plugC (oneP n k 0 0) (k : Int) = 8 := by
  have hk : k < 16 := by omega
  have hok := oneP_ok h1 h2 h3 (s := 0) (c := 0) (by decide)
  have h0 : plugC (oneP n k 0 0) (k : Int) = 8 := by
    unfold plugC
    rw [if_neg (fun z => z hok.chk), if_neg (by rw [oneP_isP h1 h2]; decide), Int.toNat_natCast, (oneP_at hk 0 0).1, if_pos rfl]
  exact ⟨plugV_bad (by rw [h0]; decide), h0⟩
theorem oneP_tick {n : Int} {k : Nat} (h1 : 1 ≤ (k : Int)) (h2 : (k : Int) ≤ n) (h3 : n ≤ 15) {s c : Int} (hr : rgt s c = true) : tickV (oneP n k s c) = oneP n k (tS s) (tC s c) := by
  have hk : k < 16 := by omega
  have hok := oneP_ok h1 h2 h3 hr
  refine hub_ext (tickV_len hok.len) (oneP_len _ _ _ _) (by rw [tick_cn hok]; unfold oneP; rw [setP_cn, setP_cn]) fun j hj => ?_
  rw [(tick_at hok hj).1, (tick_at hok hj).2]
  by_cases e : j = k
  · subst e
    rw [(oneP_at hk s c).1, (oneP_at hk s c).2, (oneP_at hk _ _).1, (oneP_at hk _ _).2]
    exact ⟨rfl, rfl⟩
  · unfold oneP
    rw [setP_sta (hub0_len n) hk, setP_chg (hub0_len n) hk, setP_sta (hub0_len n) hk, setP_chg (hub0_len n) hk, if_neg e, if_neg e, if_neg e, if_neg e, (sta_hub0 n j).1, (sta_hub0 n j).2]
    exact ⟨rfl, rfl⟩
end Go.Proofs.Ytdnmjeiljpdmcaa.hub
