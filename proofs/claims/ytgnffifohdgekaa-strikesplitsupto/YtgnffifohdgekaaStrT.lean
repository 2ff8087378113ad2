/- plugref: what Joined answers. -/
import Derived.Test.YtgnffifohdgekaaStrR
namespace Go.Proofs.Ytgnffifohdgekaa.strike
open Go.RowKit Go.Proofs.Ytgnffifohdgekaa.pipe
set_option linter.unusedVariables false
set_option linter.unusedSimpArgs false
set_option maxRecDepth 100000

theorem jo_small {z : Int} {l : List ByteArray} (hb : sizB z = true) (hs : sizes l ≤ 1048576) : joC z l = if 4096 < sizes l then 2 else if rowB z.toNat l = false then 4 else 0 := by
  unfold joC
  rw [hb, if_neg (by decide), strike.wrap_small (by omega)]
  by_cases h : 4096 < sizes l
  · rw [if_pos (by omega), if_pos h]
  · rw [if_neg (by omega), if_neg h]
set_option maxHeartbeats 4000000 in
theorem refJoined_any (z : Int) (v : Value) (l : List ByteArray) (w : World) (h : Rts w v l) (hs : sizes l ≤ 1048576) (hn : l.length ≤ 1048576) :
    Calls Try.prog 19 #[v, .int .i64 z] w fun e w' => e = .returned (.tuple #[.string (joT z l), .int .i64 (joC z l)]) ∧ Below w.heap.size w w' := by
  have HBT : Hid (∀ u, Calls Try.prog 27 #[.int .i64 z, .int .i64 1, .int .i64 64] u fun e w' => e = .returned (.bool (sizB z)) ∧ u = w') := fun u => between_any z 1 64 u
  obtain ⟨a, c, rfl, hlc, hcm, hc⟩ := h.cell
  have HA : Hid (∀ j x, l[j]? = some x → ∃ g off, a = some ⟨g, off, none⟩ ∧ w.cell? ⟨g, off + j, none⟩ = some (.string x)) := hc
  unfold maxLen at hcm
  cases hb : sizB z with
  | false =>
    rw [hb] at HBT
    have e1 : joC z l = 1 := by unfold joC; rw [if_pos hb]
    have e2 : joT z l = ⟨#[]⟩ := by unfold joT; rw [e1, if_neg (by decide)]
    rw [e1, e2]
    generalize l.length = n at *
    clear e1 e2 hb h hc HA
    go_enter Try.func19, Try.ntmps19
    go_wp2_with fail
    refine (HBT.out _).mono ?_
    rintro e u ⟨rfl, rfl⟩
    clear HBT
    go_wp2
    go_ret2
    exact ⟨rfl, Below.refl _ _⟩
  | true =>
  rw [hb] at HBT
  obtain ⟨z1, z2⟩ := (siz_iff z).1 hb
  obtain ⟨s, rfl⟩ : ∃ s : Nat, z = (s : Int) := ⟨z.toNat, by omega⟩
  have hjC := jo_small (l := l) hb hs
  rw [Int.toNat_natCast, row_iff (by omega)] at hjC
  have hjT : joT (s : Int) l = if joC (s : Int) l = 0 then cat l else ⟨#[]⟩ := rfl
  obtain ⟨jc, hjc⟩ : ∃ c, joC (s : Int) l = c := ⟨_, rfl⟩
  obtain ⟨jt, hjt⟩ : ∃ c, joT (s : Int) l = c := ⟨_, rfl⟩
  rw [hjc] at hjC hjT
  rw [hjt] at hjT
  rw [hjc, hjt]
  obtain ⟨n, hln⟩ : ∃ n, l.length = n := ⟨_, rfl⟩
  have HJ : Hid (jc = (if 4096 < sizes l then 2 else if decide (pcs s (cat l) = l) = false then 4 else 0) ∧ jt = (if jc = 0 then cat l else ⟨#[]⟩) ∧ l.length = n ∧ Rts w (.slice a n c) l) := ⟨hjC, hjT, hln, by rw [← hln]; exact h⟩
  rw [hln] at hlc hn ⊢
  have z64 : s ≤ 64 := by omega
  have z01 : 1 ≤ s := by omega
  clear hjC hjT hjc hjt hb h hc hln hs z1 z2
  go_enter Try.func19, Try.ntmps19
  go_wp2_with fail
  refine (HBT.out _).mono ?_
  rintro e u ⟨rfl, rfl⟩
  clear HBT
  go_wp2
  go_loopw [6, 18] (fun sv i wr => ∃ (k q : Nat), k ≤ n ∧ q ≤ 4096 ∧ sv = .int .i64 (q : Int) ∧ i = .int .i64 (k : Int) ∧ w = wr ∧ Hid (q + sizes (l.drop k) = sizes l)) (fun _ i _ => n - (intOf i).toNat)
  case atStart => exact ⟨0, 0, Nat.zero_le _, by omega, rfl, rfl, rfl, by show _ = _; simp⟩
  case round =>
    obtain ⟨k, q, hk, hq, rfl, rfl, rfl, HR⟩ := hrel
    by_cases hlt : k < n
    · have hkl : k < l.length := by have := HJ.out.2.2.1; omega
      obtain ⟨x, hx⟩ : ∃ x, l[k]? = some x := ⟨l[k], List.getElem?_eq_getElem hkl⟩
      have hxk : l[k] = x := (List.getElem?_eq_some_iff.1 hx).2
      obtain ⟨g, off, rfl, cx⟩ := HA.out k x hx
      have hR := HR.out
      rw [sizes_drop hkl, hxk] at hR
      clear HR hx hxk hkl
      by_cases hbig : 4096 < q + x.size
      · have hjc : jc = 2 := by rw [HJ.out.1, if_pos (by omega)]
        have hjt : jt = ⟨#[]⟩ := by rw [HJ.out.2.1, hjc]; rfl
        have e1 : decide ((x.size : Int) > 4096 - (q : Int)) = true := by rw [decide_eq_true_eq]; omega
        subst hjc hjt
        clear hR HJ HA
        go_wp2
        go_ret2
        exact ⟨rfl, Below.refl _ _⟩
      · have e1 : decide ((x.size : Int) > 4096 - (q : Int)) = false := by rw [decide_eq_false_iff_not]; omega
        have HR2 : Hid (q + x.size + sizes (l.drop (k + 1)) = sizes l) := by show _ = _; omega
        have hq2 : q + x.size ≤ 4096 := by omega
        clear hR hbig
        go_wp2
        go_roundw
        case rel => exact ⟨k + 1, q + x.size, by omega, hq2, by go_num, by go_num, trivial, HR2.out⟩
        case measure => simp [intOf]; omega
    have hsz : sizes l ≤ 4096 := by
      have := HR.out
      rw [List.drop_eq_nil_of_le (by have := HJ.out.2.2.1; omega), show sizes [] = 0 from rfl] at this
      omega
    have HJN : Hid (Calls Try.prog 34 #[.slice a n c, .string ⟨#[]⟩] w fun e w' => e = .returned (.string (cat l)) ∧ Below w.heap.size w w') := join_any _ l w HJ.out.2.2.2 (by omega) (by have := HJ.out.2.2.1; omega)
    obtain ⟨ct, hct⟩ : ∃ t, cat l = t := ⟨_, rfl⟩
    have hcs : ct.size ≤ 4096 := by rw [← hct, cat_size]; exact hsz
    have HPC : Hid (∀ u, Calls Try.prog 17 #[.string ct, .int .i64 (s : Int)] u fun e w' => ∃ v, e = .returned (.tuple #[v, .int .i64 0]) ∧ Txs w' u.heap.size v (pcs s ct) ∧ Below u.heap.size u w') := fun u => refPieces_ok s ct u z01 z64 hcs
    have hj1 := HJ.out.1
    have hj2 := HJ.out.2.1
    rw [if_neg (by omega), hct] at hj1
    rw [hct] at hj2
    rw [hct] at HJN
    obtain ⟨P, hP⟩ : ∃ P, pcs s ct = P := ⟨_, rfl⟩
    rw [hP] at HPC hj1
    have HK : Hid (jc = (if decide (P = l) = false then 4 else 0) ∧ jt = (if jc = 0 then ct else ⟨#[]⟩) ∧ l.length = n ∧ Rts w (.slice a n c) l) := ⟨hj1, hj2, HJ.out.2.2.1, HJ.out.2.2.2⟩
    clear hj1 hj2 hP hct hcs hsz HR HJ hq
    go_wp2_with fail
    refine HJN.out.mono ?_
    rintro e ua ⟨rfl, hba⟩
    have HBa : Hid (Below w.heap.size w ua) := hba
    clear hba HJN
    go_wp2_with fail
    refine (HPC.out _).mono ?_
    rintro e ub ⟨v5, rfl, h5, hbb⟩
    have HBb : Hid (Below w.heap.size w ub) := bsq HBa.out hbb
    obtain ⟨b, d, rfl, hbd, hdm⟩ := h5.form
    unfold maxLen at hdm
    obtain ⟨pn, hpn⟩ : ∃ n, P.length = n := ⟨_, rfl⟩
    have HPN : Hid (P.length = pn) := hpn
    obtain ⟨_, _, hv, _, _, hc5⟩ := h5.rts.cell
    injection hv with e1 e2 e3
    subst e1 e3
    have HB5 : Hid (∀ j x, P[j]? = some x → ∃ g off, b = some ⟨g, off, none⟩ ∧ ub.cell? ⟨g, off + j, none⟩ = some (.string x)) := hc5
    have HA5 : Hid (∀ j x, l[j]? = some x → ∃ g off, a = some ⟨g, off, none⟩ ∧ ub.cell? ⟨g, off + j, none⟩ = some (.string x)) := by
      obtain ⟨_, _, hv, _, _, hc6⟩ := (HK.out.2.2.2.below HBb.out).cell
      injection hv with e1 e2 e3
      subst e1 e3
      exact hc6
    rw [hpn] at hbd ⊢
    clear h5 hbb HPC HBa hc5 hpn HA e2
    by_cases hne : ¬ pn = n
    · have en : ((pn : Int) != (n : Int)) = true := by rw [bne_iff_ne]; omega
      have hjc : jc = 4 := by rw [HK.out.1, decide_eq_false (fun q => hne (by rw [← HPN.out, q, HK.out.2.2.1])), if_pos rfl]
      have hjt : jt = ⟨#[]⟩ := by rw [HK.out.2.1, hjc]; rfl
      subst hjc hjt
      clear HK HB5 HA5 HPN hne
      go_wp2
      go_ret2
      exact ⟨rfl, HBb.out⟩
    have hne : pn = n := Classical.not_not.1 hne
    subst hne
    have en : ((pn : Int) != (pn : Int)) = false := by simp
    go_wp2
    go_loopw [47] (fun i wr => ∃ (k q : Nat), k ≤ pn ∧ i = .int .i64 (k : Int) ∧ wr = ub.drewN q ∧ Hid (decide (P.drop k = l.drop k) = decide (P = l))) (fun i _ => pn - (intOf i).toNat)
    case atStart => exact ⟨0, 0, Nat.zero_le _, rfl, rfl, rfl⟩
    case round =>
      obtain ⟨k, q, hk, rfl, rfl, HR⟩ := hrel
      by_cases hlt : k < pn
      · have hk1 : k < P.length := by have := HPN.out; omega
        have hk2 : k < l.length := by have := HK.out.2.2.1; omega
        obtain ⟨g, off, rfl, c1⟩ := HB5.out k P[k] (List.getElem?_eq_getElem hk1)
        obtain ⟨g', off', rfl, d1⟩ := HA5.out k l[k] (List.getElem?_eq_getElem hk2)
        have hR := HR.out
        rw [List.drop_eq_getElem_cons hk1, List.drop_eq_getElem_cons hk2] at hR
        generalize P[k] = x at c1 hR
        generalize l[k] = y at d1 hR
        by_cases hxy : x = y
        · subst hxy
          have HR2 : Hid (decide (P.drop (k + 1) = l.drop (k + 1)) = decide (P = l)) := by
            show _ = _
            rw [← hR]; simp
          have hneq := toList_bne x x
          rw [decide_eq_true rfl] at hneq
          clear HR hR HB5 HA5 HPN HK
          go_wp2
          go_region
          go_wp2
          go_roundw
          case rel => exact ⟨k + 1, q + _, by omega, by go_num, rfl, HR2.out⟩
          case measure => simp [intOf]; omega
        · have hpl : decide (P = l) = false := by
            rw [← hR, decide_eq_false_iff_not]
            intro h; exact hxy (by injection h)
          have hjc : jc = 4 := by rw [HK.out.1, hpl, if_pos rfl]
          have hjt : jt = ⟨#[]⟩ := by rw [HK.out.2.1, hjc]; rfl
          have hneq := toList_beq x y
          rw [decide_eq_false hxy] at hneq
          subst hjc hjt
          clear HR hR HB5 HA5 HPN HK
          go_wp2
          go_region
          go_wp2
          go_ret2
          exact ⟨rfl, below_drewN HBb.out _⟩
      · have hR := HR.out
        rw [List.drop_eq_nil_of_le (by have := HPN.out; omega), List.drop_eq_nil_of_le (by have := HK.out.2.2.1; omega)] at hR
        have hpl : decide (P = l) = true := by rw [← hR]; simp
        have hjc : jc = 0 := by rw [HK.out.1, hpl, if_neg (by decide)]
        have hjt : jt = ct := by rw [HK.out.2.1, if_pos hjc]
        subst hjc hjt
        clear HR hR HB5 HA5 HPN HK
        go_wp2
        go_ret2
        exact ⟨rfl, below_drewN HBb.out _⟩
end Go.Proofs.Ytgnffifohdgekaa.strike
