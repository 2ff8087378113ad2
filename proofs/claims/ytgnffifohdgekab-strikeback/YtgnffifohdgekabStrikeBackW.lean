/- StrikeBack: pieces are joined to the text that was split, and are those of no other text. -/
import Derived.Test.YtgnffifohdgekabStrD
import Derived.Test.YtgnffifohdgekabStrE
namespace Go.Proofs.Ytgnffifohdgekab.strikeBack
open Go.RowKit Go.Proofs.Ytgnffifohdgekab.pipe Go.Proofs.Ytgnffifohdgekab.strike
set_option linter.unusedVariables false
set_option linter.unusedSimpArgs false
set_option maxRecDepth 100000

theorem tdiv_nat (a b : Nat) : Int.tdiv (a : Int) (b : Int) = ((a / b : Nat) : Int) := by
  rw [Int.tdiv_eq_ediv_of_nonneg (by omega)]; exact (Int.natCast_ediv a b).symm
theorem jo_pcs {n : Nat} {t : ByteArray} (h : spC (n : Int) t = 0) : joC (n : Int) (pcs n t) = 0 ∧ joT (n : Int) (pcs n t) = t := by
  obtain ⟨z1, z2, z3, _⟩ := sp_ok h
  have hn : 0 < n := by omega
  have h1 : joC (n : Int) (pcs n t) = 0 := by
    unfold joC
    rw [(siz_iff _).2 ⟨z1, z2⟩, if_neg (by decide), size_pcs t hn, strike.wrap_small (by omega), if_neg (by omega), Int.toNat_natCast, row_pcs t hn, if_neg (by decide)]
  exact ⟨h1, by unfold joT; rw [if_pos h1, cat_pcs t hn]⟩
theorem jo_back {z : Int} {l : List ByteArray} (h : joC z l = 0) (hn : l.length ≤ 8796093022207) : joT z l = cat l ∧ spC z (cat l) = 0 ∧ spP z (cat l) = l ∧ (cat l).size ≤ 4096 := by
  have h' := h
  unfold joC at h
  cases hb : sizB z with
  | false => rw [hb, if_pos rfl] at h; cases h
  | true =>
    rw [hb, if_neg (by decide)] at h
    obtain ⟨z1, z2⟩ := (siz_iff z).1 hb
    by_cases hl : 4096 < wrap64 (sizes l : Int)
    · rw [if_pos hl] at h; cases h
    · rw [if_neg hl] at h
      cases hr : rowB z.toNat l with
      | false => rw [hr, if_pos rfl] at h; cases h
      | true =>
        have h3 := row_sizes l hr
        have h4 : z.toNat * l.length ≤ 64 * l.length := Nat.mul_le_mul_right _ (by omega)
        have h5 : wrap64 (sizes l : Int) = (sizes l : Int) := by unfold wrap64; omega
        rw [h5] at hl
        have hz : (cat l).size ≤ 4096 := by rw [cat_size]; omega
        have hs : spC z (cat l) = 0 := by unfold spC; rw [hb, if_neg (by decide), if_neg (by omega)]
        exact ⟨by unfold joT; rw [if_pos h'], hs, by unfold spP; rw [if_pos hs, pcs_cat (by omega) l hr], hz⟩
set_option maxHeartbeats 4000000 in
theorem walk (a0 : ByteArray) (v1 : Value) (l1 : List ByteArray) (a2 : Int) (w0 : a0.size ≤ maxLen) (w2 : (Lit.int .i64 a2).wf = true) (w : World) (hp1 : Rts w v1 l1) (hk1 : l1.length * 16 ≤ reachBytes) :
    Calls Try.prog 6 #[.string a0, v1, .int .i64 a2] w fun e w' => e = .returned (.bool true) ∧ Below w.heap.size w w' := by
  clear w2
  unfold reachBytes at hk1
  have hl1 : l1.length ≤ 8796093022207 := by omega
  have HSP : Hid (Calls Try.prog 16 #[.string a0, .int .i64 a2] w fun e w' => ∃ v, e = .returned (.tuple #[v, .int .i64 (spC a2 a0)]) ∧ Txs w' w.heap.size v (spP a2 a0) ∧ Below w.heap.size w w') := split_any a2 a0 w w0
  have HLI : Hid (∀ u, Calls Try.prog 18 #[] u fun e w' => e = .returned (.bool true) ∧ Below u.heap.size u w') := strike.lives_any
  obtain ⟨pa, pc, rfl, _, _, _⟩ := id hp1
  obtain ⟨pn, hpn⟩ : ∃ n, l1.length = n := ⟨_, rfl⟩
  rw [hpn] at hp1 ⊢
  obtain ⟨jc, hjc⟩ : ∃ c, joC a2 l1 = c := ⟨_, rfl⟩
  obtain ⟨jt, hjt⟩ : ∃ c, joT a2 l1 = c := ⟨_, rfl⟩
  have HJ : Hid (∀ u, Below w.heap.size w u → Calls Try.prog 17 #[.slice pa pn pc, .int .i64 a2] u fun e w' => e = .returned (.tuple #[.string jt, .int .i64 jc]) ∧ Below u.heap.size u w') := fun u hu => by
    have := joinS_any a2 _ l1 u (hp1.below hu) hl1
    rw [hjc, hjt] at this
    exact this
  have HE : Hid (jc = 0 → jt = cat l1 ∧ spC a2 (cat l1) = 0 ∧ spP a2 (cat l1) = l1 ∧ (cat l1).size ≤ 4096) := fun h => by
    have := jo_back (z := a2) (l := l1) (by rw [hjc]; exact h) hl1
    rw [hjt] at this
    exact this
  have HS2 : Hid (jc = 0 → ∀ u, Calls Try.prog 16 #[.string (cat l1), .int .i64 a2] u fun e w' => ∃ v, e = .returned (.tuple #[v, .int .i64 0]) ∧ Txs w' u.heap.size v l1 ∧ Below u.heap.size u w') := fun h u => by
    obtain ⟨_, p1, p2, p3⟩ := HE.out h
    have := split_any a2 (cat l1) u (by unfold maxLen; omega)
    rw [p1, p2] at this
    exact this
  have HE0 : Hid (¬ jc = 0 → jt = ⟨#[]⟩) := fun h => by rw [← hjt]; unfold joT; rw [if_neg (by rw [hjc]; exact h)]
  have HR1 : Hid (Rts w (.slice pa pn pc) l1) := hp1
  obtain ⟨zc, hzc⟩ : ∃ z, spC a2 a0 = z := ⟨_, rfl⟩
  have HZC : Hid (spC a2 a0 = zc) := hzc
  rw [hzc] at HSP
  clear hzc hjc hjt hp1 hl1 hpn hk1 w0
  go_enter Try.func6, Try.ntmps6
  go_wp2_with fail
  refine HSP.out.mono ?_
  rintro e ua ⟨v, rfl, hT, hba⟩
  clear HSP
  by_cases hz0 : zc = 0
  all_goals
    (first
      | (subst hz0
         obtain ⟨z1, z2, z3, hsp⟩ := sp_ok HZC.out
         obtain ⟨n, rfl⟩ : ∃ n : Nat, a2 = (n : Int) := ⟨a2.toNat, by omega⟩
         rw [Int.toNat_natCast] at hsp
         obtain ⟨q1, q2⟩ := jo_pcs HZC.out
         rw [hsp] at hT
         have hlen := pcs_length n a0
         have HJ1 : Hid (Calls Try.prog 17 #[v, .int .i64 (n : Int)] ua fun e w' => e = .returned (.tuple #[.string a0, .int .i64 0]) ∧ Below ua.heap.size ua w') := by
           have := joinS_any (n : Int) v (pcs n a0) ua hT.rts (by rw [hlen]; have := Nat.div_le_self a0.size n; omega)
           rw [q1, q2] at this
           exact this
         obtain ⟨ta, tc, hv, _, _⟩ := hT.form
         subst hv
         have etd := tdiv_nat a0.size n
         have hD4 : a0.size / n ≤ 4096 := Nat.le_trans (Nat.div_le_self _ _) z3
         have hn0 : ((n : Int) == 0) = false := by rw [beq_eq_false_iff_ne]; omega
         rw [hlen] at HJ1 ⊢
         generalize a0.size / n = D at *
         have eD : (((D + 1 : Nat) : Int) != (D : Int) + 1) = false := by simp
         have eN : ((D + 1 : Nat) : Int) = (D : Int) + 1 := by omega
         have es : (a0.toList != a0.toList) = false := by simp
         have HB0 : Hid (Below w.heap.size w ua) := hba
         clear hT hba hsp q1 q2 hlen
         go_wp2_with fail
         refine HJ1.out.mono ?_
         rintro e ub ⟨rfl, hbb⟩
         have HBb : Hid (Below w.heap.size w ub) := bsq HB0.out hbb
         clear hbb HB0 HJ1
         go_upto_region 6 with (fail))
      | (have e0 : (zc == 0) = false := by simpa using hz0
         obtain ⟨ub, rfl⟩ : ∃ ub, ub = ua := ⟨_, rfl⟩
         have HBb : Hid (Below w.heap.size w ub) := hba
         obtain ⟨ta, tc, hv, _, _⟩ := hT.form
         subst hv
         generalize (spP a2 a0).length = N at *
         clear hT hba hz0
         go_upto_region 6 with (fail)))
  all_goals
    (clear HZC
     go_wp2_with fail
     refine (HJ.out ub HBb.out).mono ?_
     rintro e uc ⟨rfl, hbc⟩
     have HBc : Hid (Below w.heap.size w uc) := bsq HBb.out hbc
     clear hbc HBb HJ
     by_cases hj0 : ¬ jc = 0
     · have ej : (jc != 0) = true := by simpa using hj0
       obtain rfl := HE0.out hj0
       clear HE HE0 hj0 HS2
       go_wp2_with fail
       refine (HLI.out _).mono ?_
       rintro e ud ⟨rfl, hbd⟩
       have HB : Hid (Below w.heap.size w ud) := bsq HBc.out hbd
       clear hbd
       go_wp2
       go_ret
       exact ⟨rfl, HB.out⟩
     have hj0 : jc = 0 := Classical.not_not.1 hj0
     obtain ⟨rfl, _⟩ := HE.out hj0
     subst hj0
     replace HS2 : Hid _ := HS2.out rfl
     generalize cat l1 = ct at *
     clear HE HE0
     go_wp2_with fail
     refine (HS2.out _).mono ?_
     rintro e ud ⟨v5, rfl, h5, hbd⟩
     have HBd : Hid (Below w.heap.size w ud) := bsq HBc.out hbd
     have HEQ : Hid (∀ u, Below ud.heap.size ud u → Calls Try.prog 19 #[v5, .slice pa pn pc] u fun e w' => e = .returned (.bool true) ∧ Below u.heap.size u w') := fun u hu => by
       have := equalT_any v5 (.slice pa pn pc) l1 l1 u (h5.rts.below hu) (HR1.out.below (bsq HBd.out hu))
       rw [decide_eq_true rfl] at this
       exact this
     obtain ⟨da, dc, hv, _, _⟩ := h5.form
     subst hv
     generalize l1.length = dn at *
     clear h5 hbd HS2
     go_wp2_with fail
     refine (HLI.out _).mono ?_
     rintro e ue ⟨rfl, hbe⟩
     have HEe : Hid (Calls Try.prog 19 #[.slice da dn dc, .slice pa pn pc] ue fun e w' => e = .returned (.bool true) ∧ Below ue.heap.size ue w') := HEQ.out ue hbe
     have HBe : Hid (Below w.heap.size w ue) := bsq HBd.out hbe
     clear hbe HEQ
     go_wp2_with fail
     refine HEe.out.mono ?_
     rintro e uf ⟨rfl, hbf⟩
     have HB : Hid (Below w.heap.size w uf) := bsq HBe.out hbf
     clear hbf HEe
     go_wp2
     go_ret
     exact ⟨rfl, HB.out⟩)
end Go.Proofs.Ytgnffifohdgekab.strikeBack
