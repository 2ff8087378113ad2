/- hub: the plain mathematics of what a hub keeps: right stays right, one port changes, twice is once. -/
import Derived.Test.YtdnmjeiljpdmcaaHubH
namespace Go.Proofs.Ytdnmjeiljpdmcaa.hub
open Go Go.RowKit
open Go.Proofs.Ytdnmjeiljpdmcaa.slots (cl cl_at cl_set cl_ext allF allF_step allF_end allF_iff anyF)
open Go.PlainAid
open Go.Proofs.Ytdnmjeiljpdmcaa.lane (nums)
open Go.Proofs.Ytdnmjeiljpdmcaa.setup (rK rN rC rC_zero rC_bad)
set_option linter.unusedVariables false
set_option linter.unusedSimpArgs false
set_option maxRecDepth 100000

theorem plg_rgt {s c : Int} (t : Bool) (h : rgt s c = true) (h0 : s ≠ 0) : rgt (plgS s t) (plgC s c t) = true := by
  obtain ⟨hs, hc⟩ := rgt_iff.1 h
  have h1 := (ch_with hc).1
  have h2 := (ch_with h1).2.1
  rw [rgt_iff]
  rcases stB_iff.1 hs with rfl | rfl | rfl | rfl | rfl
  · exact absurd rfl h0
  all_goals
    cases t
    · refine ⟨rfl, ?_⟩
      first | exact hc | exact h1 | exact h2
    · refine ⟨rfl, ?_⟩
      first | exact hc | exact h1 | exact h2
theorem plugC_zero {F : List Int} {n : Int} (hF : F.length = 33) (h : plugC F n = 0) : ∃ k : Nat, 1 ≤ k ∧ k < 16 ∧ n = (k : Int) ∧ isP F (k : Int) = true ∧ Ok F ∧ sta F k ≠ 0 := by
  unfold plugC at h
  by_cases h0 : chk F ≠ 0
  · rw [if_pos h0] at h; exact absurd h h0
  rw [if_neg h0] at h
  by_cases h1 : isP F n = false
  · rw [if_pos h1] at h; omega
  rw [if_neg h1] at h
  by_cases h2 : sta F n.toNat = 0
  · rw [if_pos h2] at h; omega
  have hok := chk_ok hF (by omega)
  obtain ⟨k, hk1, hk2, rfl, hp⟩ := port_of hok (n := n) (by simpa using h1)
  rw [Int.toNat_natCast] at h2
  exact ⟨k, hk1, hk2, rfl, hp, hok, h2⟩
theorem plugV_eq {F : List Int} {k : Nat} {t : Bool} (h : plugC F (k : Int) = 0) : plugV F (k : Int) t = setP F k (plgS (sta F k) t) (plgC (sta F k) (chg F k) t) := by
  unfold plugV; rw [if_neg (fun z => z h), Int.toNat_natCast]
theorem plugV_bad {F : List Int} {n : Int} {t : Bool} (h : plugC F n ≠ 0) : plugV F n t = F := by unfold plugV; rw [if_pos h]
theorem plugV_len {F : List Int} (n : Int) (t : Bool) (h : F.length = 33) : (plugV F n t).length = 33 := by
  unfold plugV
  split
  · exact h
  · rw [setP_len, h]
theorem tickV_len {F : List Int} (h : F.length = 33) : (tickV F).length = 33 := by
  unfold tickV
  split
  · exact h
  · rw [tkN_len, h]
theorem plugV_ok {F : List Int} {n : Int} {t : Bool} (h : Ok F) : Ok (plugV F n t) := by
  by_cases h0 : plugC F n = 0
  · obtain ⟨k, hk1, hk2, rfl, hp, _, hs⟩ := plugC_zero h.len h0
    rw [plugV_eq h0]
    exact h.set hp (plg_rgt t (h.rgt hk2) hs)
  · rw [plugV_bad h0]; exact h
theorem plug_other {F : List Int} {n : Int} {t : Bool} {j : Nat} (h : Ok F) (hj : (j : Int) ≠ n) : sta (plugV F n t) j = sta F j ∧ chg (plugV F n t) j = chg F j := by
  by_cases h0 : plugC F n = 0
  · obtain ⟨k, hk1, hk2, rfl, hp, _, hs⟩ := plugC_zero h.len h0
    have hne : j ≠ k := by omega
    rw [plugV_eq h0, setP_sta h.len hk2, setP_chg h.len hk2, if_neg hne, if_neg hne]
    exact ⟨rfl, rfl⟩
  · rw [plugV_bad h0]; exact ⟨rfl, rfl⟩
theorem tickV_eq {F : List Int} (h : Ok F) : tickV F = tkN F 16 := by unfold tickV; rw [if_neg (fun z => z h.chk)]
theorem tick_at {F : List Int} (h : Ok F) {k : Nat} (hk : k < 16) : sta (tickV F) k = tS (sta F k) ∧ chg (tickV F) k = tC (sta F k) (chg F k) := by
  rw [tickV_eq h]
  have := tkN_at h.len 16 (by omega) k
  rw [if_pos hk, if_pos hk] at this
  exact this
theorem tick_cn {F : List Int} (h : Ok F) : cn (tickV F) = cn F := by rw [tickV_eq h, tkN_cn]
theorem tick_ok {F : List Int} (h : Ok F) : Ok (tickV F) := by
  refine ⟨tickV_len h.len, by rw [tick_cn h]; exact h.lo, by rw [tick_cn h]; exact h.hi, fun k hk => ?_⟩
  obtain ⟨e1, e2⟩ := tick_at h hk
  have ho := h.at' k hk
  unfold okP at ho ⊢
  have e3 : isP (tickV F) (k : Int) = isP F (k : Int) := by unfold isP; rw [tick_cn h]
  rw [e1, e2, e3]
  obtain ⟨hs, hc⟩ := rgt_iff.1 (h.rgt hk)
  have h16 := (ch_with hc).2.2.1
  rcases stB_iff.1 hs with q | q | q | q | q
  · rw [q] at ho ⊢; exact ho
  · rw [q] at ho ⊢; exact ho
  · rw [q] at ho ⊢; exact ho
  · rw [q] at ho ⊢; exact ho
  · rw [q] at ho ⊢
    have hp : isP F (k : Int) = true := by
      cases z : isP F (k : Int) with
      | true => rfl
      | false => have := (h.none hk z).1; omega
    rw [hp]
    show (rgt 259 (with' (chg F k) 16) && _) = true
    rw [rgt_iff.2 ⟨rfl, h16⟩]; rfl
theorem tick_twice {F : List Int} (h : Ok F) : tickV (tickV F) = tickV F := by
  have h1 := tick_ok h
  refine hub_ext (tickV_len h1.len) h1.len (by rw [tick_cn h1]) fun k hk => ?_
  obtain ⟨e1, e2⟩ := tick_at h1 hk
  obtain ⟨f1, f2⟩ := tick_at h hk
  rw [e1, e2]
  have hne : sta (tickV F) k ≠ 273 := by
    rw [f1]; unfold tS
    split
    · decide
    · assumption
  unfold tS tC
  rw [if_neg hne, if_neg hne]
  exact ⟨rfl, rfl⟩
/-- an ask about a port, that was done or not -/
theorem ctlV_eq {F : List Int} {t : ByteArray} (hF : F.length = 33) (h : askE F (qs t) = 0) (h8 : rK t ≠ 8) : ∃ i : Nat, i < 16 ∧ rN t 4 = (i : Int) ∧ isP F (i : Int) = true ∧ Ok F ∧ ctlV F (qs t) = setP F i (dnS (rK t == 9) (rN t 2) (sta F i)) (dnC (rK t == 9) (rN t 2) (chg F i)) ∧ ctlE F (qs t) = dnE (rK t == 9) (rN t 2) (sta F i) := by
  obtain ⟨i, hi1, hi2, hi, hp, hok, hc, hk1, hk2⟩ := ctl_port hF h
  have qi : (qs t).i.toNat = i := by show (rN t 4).toNat = i; omega
  have q8 : ¬ (qs t).k = 8 := h8
  refine ⟨i, hi2, hi, hp, hok, ?_, ?_⟩
  · unfold ctlV; rw [if_neg (by rintro (q | q); exact q h; exact q8 q), qi]; rfl
  · unfold ctlE; rw [if_neg (fun z => z h), if_neg q8, qi]; rfl
theorem ctlV_none {F : List Int} {t : ByteArray} (h : askE F (qs t) ≠ 0 ∨ rK t = 8) : ctlV F (qs t) = F := by
  unfold ctlV; rw [if_pos (show askE F (qs t) ≠ 0 ∨ (qs t).k = 8 from h)]
theorem ctlV_ok {F : List Int} {t : ByteArray} (h : Ok F) : Ok (ctlV F (qs t)) := by
  by_cases h0 : askE F (qs t) = 0
  · by_cases h8 : rK t = 8
    · rw [ctlV_none (.inr h8)]; exact h
    · obtain ⟨i, hi, _, hp, _, hv, _⟩ := ctlV_eq h.len h0 h8
      rw [hv]
      obtain ⟨hs, hc⟩ := rgt_iff.1 (h.rgt hi)
      exact h.set hp (rgt_iff.2 ⟨stS hs _ _, chS hc _ _⟩)
  · rw [ctlV_none (.inl h0)]; exact h
/-- at most one port is other than before -/
theorem ctl_one {F : List Int} {t : ByteArray} (h : Ok F) : ∃ i : Nat, i < 16 ∧ ∀ k, k ≠ i → sta (ctlV F (qs t)) k = sta F k ∧ chg (ctlV F (qs t)) k = chg F k := by
  by_cases h0 : askE F (qs t) = 0
  · by_cases h8 : rK t = 8
    · rw [ctlV_none (.inr h8)]; exact ⟨0, by omega, fun _ _ => ⟨rfl, rfl⟩⟩
    · obtain ⟨i, hi, _, hp, _, hv, _⟩ := ctlV_eq h.len h0 h8
      refine ⟨i, hi, fun k hk => ?_⟩
      rw [hv, setP_sta h.len hi, setP_chg h.len hi, if_neg hk, if_neg hk]
      exact ⟨rfl, rfl⟩
  · rw [ctlV_none (.inl h0)]; exact ⟨0, by omega, fun _ _ => ⟨rfl, rfl⟩⟩
theorem plugC_err {F : List Int} {n : Int} (h : chk F ≠ 0) : plugC F n ≠ 0 := by unfold plugC; rw [if_pos h]; exact h
theorem ctlE_err {F : List Int} {t : ByteArray} (h : chk F ≠ 0) : ctlE F (qs t) ≠ 0 := by
  have : askE F (qs t) = chk F := by unfold askE; rw [if_pos h]
  unfold ctlE; rw [this, if_pos h]; exact h
theorem plugV_hb {F : List Int} (n : Int) (t : Bool) (h : Hb F) : Hb (plugV F n t) := by
  by_cases h0 : chk F = 0
  · exact (plugV_ok (chk_ok h.len h0)).hb
  · rw [plugV_bad (plugC_err h0)]; exact h
theorem ctlV_hb {F : List Int} (t : ByteArray) (h : Hb F) : Hb (ctlV F (qs t)) := by
  by_cases h0 : chk F = 0
  · exact (ctlV_ok (chk_ok h.len h0)).hb
  · rw [ctl_bad h.len (ctlE_err h0)]; exact h
theorem tickV_hb {F : List Int} (h : Hb F) : Hb (tickV F) := by
  by_cases h0 : chk F = 0
  · exact (tick_ok (chk_ok h.len h0)).hb
  · unfold tickV; rw [if_pos h0]; exact h
theorem tick_again {F : List Int} (h : F.length = 33) : tickV (tickV F) = tickV F ∧ chk (tickV F) = chk F := by
  by_cases h0 : chk F = 0
  · have hok := chk_ok h h0
    exact ⟨tick_twice hok, by rw [(tick_ok hok).chk, h0]⟩
  · have : tickV F = F := by unfold tickV; rw [if_pos h0]
    rw [this, this]; exact ⟨rfl, rfl⟩
theorem plug_again {F : List Int} {n : Int} {t : Bool} (h : F.length = 33) : plugV (plugV F n t) n t = plugV F n t ∧ plugC (plugV F n t) n = plugC F n := by
  by_cases h0 : plugC F n = 0
  · obtain ⟨k, hk1, hk2, rfl, hp, hok, hs⟩ := plugC_zero h h0
    have hG := plugV_ok (n := (k : Int)) (t := t) hok
    have e := plugV_eq (t := t) h0
    obtain ⟨hr, hc⟩ := rgt_iff.1 (hok.rgt hk2)
    have e1 : sta (plugV F (k : Int) t) k = plgS (sta F k) t := by rw [e, setP_sta h hk2, if_pos rfl]
    have e2 : chg (plugV F (k : Int) t) k = plgC (sta F k) (chg F k) t := by rw [e, setP_chg h hk2, if_pos rfl]
    have hp2 : isP (plugV F (k : Int) t) (k : Int) = true := by unfold isP; rw [e, setP_cn]; exact hp
    have hs2 : sta (plugV F (k : Int) t) k ≠ 0 := by
      rw [e1]
      rcases stB_iff.1 hr with q | q | q | q | q
      · exact absurd q hs
      all_goals rw [q]; cases t <;> decide
    have hc2 : plugC (plugV F (k : Int) t) (k : Int) = 0 := by
      unfold plugC
      rw [if_neg (fun z => z hG.chk), if_neg (by rw [hp2]; decide), Int.toNat_natCast, if_neg hs2]
    refine ⟨?_, by rw [hc2, h0]⟩
    rw [plugV_eq hc2, e1, e2]
    have hsame : plgS (plgS (sta F k) t) t = plgS (sta F k) t ∧ plgC (plgS (sta F k) t) (plgC (sta F k) (chg F k) t) t = plgC (sta F k) (chg F k) t := by
      rcases stB_iff.1 hr with q | q | q | q | q
      · exact absurd q hs
      all_goals rw [q]; cases t <;> exact ⟨rfl, rfl⟩
    rw [hsame.1, hsame.2, e, setP_twice h hk2]
  · rw [plugV_bad h0, plugV_bad h0]; exact ⟨rfl, rfl⟩
theorem dn_again {on : Bool} {v s c : Int} (hs : stB s = true) (hc : chB c = true) : dnS on v (dnS on v s) = dnS on v s ∧ dnC on v (dnC on v c) = dnC on v c ∧ dnE on v (dnS on v s) = dnE on v s := by
  have h1 := stB_iff.1 hs
  refine ⟨?_, ?_, ?_⟩
  · unfold dnS
    cases on
    · simp only [Bool.false_eq_true, if_false]
      by_cases a : v = 8
      · simp [a]
      · by_cases b : v = 1 ∧ s = 259
        · simp [a, b]
        · simp [a, b]
    · simp only [if_true]
      by_cases a : v = 8
      · by_cases b : s = 0
        · simp [a, b]
        · simp [a, b]
      · by_cases b : v = 4 ∧ 256 < s
        · simp [a, b]
        · simp [a, b]
  · unfold dnC
    cases on
    · simp only [Bool.false_eq_true, if_false]
      have h2 : less (less c 1) 1 = less c 1 ∧ less (less c 2) 2 = less c 2 ∧ less (less c 16) 16 = less c 16 := by
        rcases chB_iff.1 hc with rfl | rfl | rfl | rfl | rfl | rfl | rfl | rfl <;> decide
      by_cases a : v = 16
      · simp [a, h2.1]
      · by_cases b : v = 17
        · simp [b, h2.2.1]
        · by_cases d : v = 20
          · simp [d, h2.2.2]
          · simp [a, b, d]
    · simp
  · unfold dnE dnS
    cases on
    · simp only [Bool.false_eq_true, if_false]
    · simp only [if_true]
      by_cases a : v = 8
      · simp [a]
      · by_cases b : v = 4 ∧ 256 < s
        · simp [a, b]
        · simp [a, b]
theorem ctl_again {F : List Int} {t : ByteArray} (h : F.length = 33) : ctlV (ctlV F (qs t)) (qs t) = ctlV F (qs t) ∧ ctlE (ctlV F (qs t)) (qs t) = ctlE F (qs t) := by
  by_cases h0 : askE F (qs t) = 0
  · by_cases h8 : rK t = 8
    · rw [ctlV_none (.inr h8), ctlV_none (.inr h8)]; exact ⟨rfl, rfl⟩
    · obtain ⟨i, hi, hi4, hp, hok, hv, he⟩ := ctlV_eq h h0 h8
      obtain ⟨hs, hc⟩ := rgt_iff.1 (hok.rgt hi)
      obtain ⟨d1, d2, d3⟩ := dn_again (on := (rK t == 9)) (v := rN t 2) hs hc
      have hG := ctlV_ok (t := t) hok
      have hcn : cn (ctlV F (qs t)) = cn F := by rw [hv, setP_cn]
      have h0' : askE (ctlV F (qs t)) (qs t) = 0 := by
        unfold askE at h0 ⊢
        rw [if_neg (fun z => z hok.chk)] at h0
        rw [if_neg (fun z => z hG.chk), hcn]
        exact h0
      obtain ⟨i', hi', hi4', hp', _, hv', he'⟩ := ctlV_eq hG.len h0' h8
      have hii : i' = i := by omega
      subst hii
      have e1 : sta (ctlV F (qs t)) i' = dnS (rK t == 9) (rN t 2) (sta F i') := by rw [hv, setP_sta h hi, if_pos rfl]
      have e2 : chg (ctlV F (qs t)) i' = dnC (rK t == 9) (rN t 2) (chg F i') := by rw [hv, setP_chg h hi, if_pos rfl]
      refine ⟨?_, ?_⟩
      · rw [hv', e1, e2, d1, d2, hv, setP_twice h hi]
      · rw [he', e1, d3, he]
  · rw [ctlV_none (.inl h0), ctlV_none (.inl h0)]; exact ⟨rfl, rfl⟩
/-- how many of the first k -/
def cntF (p : Nat → Bool) : Nat → Nat
  | 0 => 0
  | k + 1 => cntF p k + (if p k = true then 1 else 0)
theorem cntF_le {p : Nat → Bool} {i : Nat} (h : ∀ j, j ≠ i → p j = false) : ∀ k, cntF p k ≤ (if i < k then 1 else 0)
  | 0 => by simp [cntF]
  | k + 1 => by
    have ih := cntF_le h k
    show cntF p k + (if p k = true then 1 else 0) ≤ _
    by_cases q : k = i
    · subst q
      rw [if_neg (Nat.lt_irrefl k)] at ih
      rw [if_pos (Nat.lt_succ_self k)]
      have : (if p k = true then 1 else 0) ≤ 1 := by split <;> omega
      omega
    · have e : (if p k = true then 1 else 0) = 0 := by rw [h k q]; rfl
      rw [e, Nat.add_zero]
      by_cases z : i < k
      · rw [if_pos z] at ih; rw [if_pos (show i < k + 1 by omega)]; omega
      · rw [if_neg z] at ih; rw [if_neg (show ¬ i < k + 1 by omega)]; omega
theorem cntF_one {p : Nat → Bool} {i : Nat} (h : ∀ j, j ≠ i → p j = false) (k : Nat) : cntF p k ≤ 1 := by
  have := cntF_le h k
  split at this <;> omega
theorem cntF_pos {p : Nat → Bool} : ∀ k, 0 < cntF p k → ∃ j, j < k ∧ p j = true
  | 0, h => by simp [cntF] at h
  | k + 1, h => by
    by_cases q : p k = true
    · exact ⟨k, by omega, q⟩
    · have e : cntF p (k + 1) = cntF p k + (if p k = true then 1 else 0) := rfl
      rw [if_neg q, Nat.add_zero] at e
      rw [e] at h
      obtain ⟨j, hj, hp⟩ := cntF_pos k h
      exact ⟨j, by omega, hp⟩
end Go.Proofs.Ytdnmjeiljpdmcaa.hub
