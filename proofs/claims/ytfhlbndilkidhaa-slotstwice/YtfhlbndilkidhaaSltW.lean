/- slots: the plain mathematics of SlotsTwice. No program is named here. -/
import Derived.Test.YtfhlbndilkidhaaSltS
namespace Go.Proofs.Ytfhlbndilkidhaa.slots
set_option linter.unusedVariables false

theorem cfgd_len (s : List Int) (a : Int) : (cfgd s a).length = 66 := by unfold cfgd; rw [List.length_set, cfL_length]
theorem cfgd_twice {s : List Int} (hs : s.length = 66) {a : Int} : cfgd (cfgd s a) a = cfgd s a := by
  have ht := cfgd_len s a
  refine cl_ext (cfgd_len _ _) ht fun j hj => ?_
  rw [cl_cfgd ht hj]
  by_cases j0 : j = 0
  · rw [if_pos j0, cl_cfgd hs hj, if_pos j0]
  rw [if_neg j0, cl_cfgd hs hj, if_neg j0]
  have hc : cl (cfgd s a) j = cfN s a 32 j := by rw [cl_cfgd hs hj, if_neg j0]
  by_cases lo : 4 ≤ j ∧ j < 34 ∧ j < 32 + 2
  · rw [cfN_lo lo, hc, cfN_lo lo]
    by_cases b : bit a (j - 2) = 0
    · rw [if_pos b, if_pos b]
    · rw [if_neg b, if_neg b]
      by_cases z : cl s j = 0
      · rw [if_pos z, if_neg (by omega)]
      · rw [if_neg z, if_neg z]
  · by_cases hi : 36 ≤ j ∧ j < 32 + 34
    · rw [cfN_hi hi, hc, cfN_hi hi]
      by_cases b : bit a (j - 34) = 0
      · rw [if_pos b, if_pos b]
      · rw [if_neg b, if_neg b]
    · rw [cfN_no lo hi, hc]
theorem cfgd_both {s : List Int} (hs : s.length = 66) {a o : Int} {k : Nat} (hk : k < 32) (h : k < 2 ∨ bit a k = 1 ∧ bit o k = 1) : en (cfgd (cfgd s a) o) k = en (cfgd s a) k ∧ mk (cfgd (cfgd s a) o) k = mk (cfgd s a) k := by
  have ht := cfgd_len s a
  rw [en_cfgd ht hk, mk_cfgd ht hk]
  by_cases k2 : k < 2
  · rw [if_pos k2, if_pos k2]; exact ⟨rfl, rfl⟩
  · rcases h with q | ⟨q1, q2⟩
    · exact absurd q k2
    · have ho : ¬ bit o k = 0 := by omega
      have ha : ¬ bit a k = 0 := by omega
      rw [if_neg k2, if_neg k2, if_neg ho, if_neg ho]
      refine ⟨?_, rfl⟩
      rw [en_cfgd hs hk, if_neg k2, if_neg ha]
      by_cases z : en s k = 0
      · rw [if_pos z, if_neg (by omega)]
      · rw [if_neg z, if_neg z]
/-- a slot that was configured -/
structure Cfd (B : Bd) (m : Nat) (a : Int) (X : Ans) : Prop where
  m1 : 1 ≤ m
  m2 : m ≤ 8
  set : stB a = true
  eq : X = ⟨B.set m (cfgd (sl B m) a), 1, (m : Int)⟩
  s0 : ¬ st (sl B m) = 0
  s1 : ¬ st (sl B m) = 1
theorem cfd_of {B : Bd} {n a : Int} (h : (doB B 5 n 0 a).c = 1) : ∃ m : Nat, n = m ∧ Cfd B m a (doB B 5 n 0 a) := by
  have hc := do_chk h
  have e : doB B 5 n 0 a = ats B 5 n 0 a := by unfold doB; rw [hc, if_neg (by simp), if_neg (by omega), if_neg (by omega), if_pos (by omega)]
  rw [e] at h ⊢
  unfold ats at *
  by_cases q : slB n = false
  · rw [if_pos q] at h; exact absurd h (show ¬ (5 : Int) = 1 by decide)
  rw [if_neg q] at h ⊢
  have hn := sl_in (s := n) (by simpa using q)
  have h' : (beh (sl B n.toNat) (la B : Int) 5 0 a).2 = 1 := h
  refine ⟨n.toNat, hn.2.2.symm, ?_⟩
  unfold beh at h' ⊢
  by_cases s0 : st (sl B n.toNat) = 0
  · rw [if_pos s0] at h'; exact absurd h' (show ¬ (11 : Int) = 1 by decide)
  rw [if_neg s0, if_neg (by omega), if_neg (by omega), if_pos rfl] at h' ⊢
  unfold cfg at h' ⊢
  by_cases b : stB a = false
  · rw [if_pos b] at h'; exact absurd h' (show ¬ (17 : Int) = 1 by decide)
  rw [if_neg b] at h' ⊢
  by_cases s1 : st (sl B n.toNat) = 1
  · rw [if_pos s1] at h'; exact absurd h' (show ¬ (19 : Int) = 1 by decide)
  rw [if_neg s1]
  exact ⟨hn.1, hn.2.1, by simpa using b, by rw [hn.2.2], s0, s1⟩
/-- configured once more -/
theorem cfd_do {B : Bd} {m : Nat} {a : Int} (hw : Wf B) (hc : chk B = true) (h1 : 1 ≤ m) (h2 : m ≤ 8) (s0 : ¬ st (sl B m) = 0) (s1 : ¬ st (sl B m) = 1) (hb : stB a = true) : doB B 5 (m : Int) 0 a = ⟨B.set m (cfgd (sl B m) a), 1, (m : Int)⟩ := by
  have hsl : slB (m : Int) = true := by unfold slB; simp; omega
  have ht : ((m : Nat) : Int).toNat = m := by omega
  unfold doB
  rw [hc, if_neg (by simp), if_neg (by omega), if_neg (by omega), if_pos (by omega)]
  unfold ats
  rw [hsl, if_neg (by simp), ht]
  unfold beh
  rw [if_neg s0, if_neg (by omega), if_neg (by omega), if_pos rfl]
  unfold cfg
  rw [hb, if_neg (by simp), if_neg s1]
theorem twice {B : Bd} {m : Nat} {a : Int} {X : Ans} (hw : Wf B) (hok : Ok B) (h : Cfd B m a X) : doB X.B 5 (m : Int) 0 a = X ∧ (∀ o, (doB X.B 5 (m : Int) 0 o).c = 1 → stB o = true ∧ sl (doB X.B 5 (m : Int) 0 o).B m = cfgd (cfgd (sl B m) a) o) ∧ sl X.B m = cfgd (sl B m) a ∧ (sl B m).length = 66 := by
  have hm9 : m < 9 := by have := h.m2; omega
  have hs := hw.sl hm9
  have hbig := right_big (hok.right m hm9) h.s0 h.s1
  have hxw : Wf (B.set m (cfgd (sl B m) a)) := hw.set (cfgd_len _ _)
  have hxo : Ok (B.set m (cfgd (sl B m) a)) := hok.set hw h.m1 hm9 (right_iff.2 (.inr (.inr (big_cfg hs hbig h.set)))) (fun j hj hjm e => by
    rw [ad_cfgd hs] at e ⊢
    rcases Nat.lt_or_gt_of_ne hjm with y | y
    · have := hok.apart j m y hm9 e.symm
      omega
    · exact hok.apart m j y hj e)
  have hxc := (chk_iff hxw).2 hxo
  have hxs : sl (B.set m (cfgd (sl B m) a)) m = cfgd (sl B m) a := by rw [sl_set hw.nine hm9, if_pos rfl]
  have hst := st_cfgd hs (a := a)
  have t0 : ¬ st (sl (B.set m (cfgd (sl B m) a)) m) = 0 := by rw [hxs, hst]; split <;> omega
  have t1 : ¬ st (sl (B.set m (cfgd (sl B m) a)) m) = 1 := by rw [hxs, hst]; split <;> omega
  rw [h.eq]
  simp only
  refine ⟨?_, fun o ho => ?_, hxs, hs⟩
  · rw [cfd_do hxw hxc h.m1 h.m2 t0 t1 h.set, hxs, cfgd_twice hs, List.set_set]
  · obtain ⟨m', e, hc⟩ := cfd_of ho
    have : m' = m := by omega
    subst this
    refine ⟨hc.set, ?_⟩
    rw [hc.eq]
    show sl (List.set _ _ _) _ = _
    rw [sl_set hxw.nine hm9, if_pos rfl, hxs]
end Go.Proofs.Ytfhlbndilkidhaa.slots
