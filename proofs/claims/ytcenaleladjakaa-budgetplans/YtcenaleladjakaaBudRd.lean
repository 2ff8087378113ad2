/- budget, the document's answer: Planned. -/
import Derived.Test.YtcenaleladjakaaBudRa
import Derived.Test.YtcenaleladjakaaBudRc
namespace Go.Proofs.Ytcenaleladjakaa.budget
open Go Go.RowKit
set_option linter.unusedVariables false
set_option linter.unusedSimpArgs false
set_option maxRecDepth 100000

theorem ex_storev {o : Oper} {a : Act} {W : World} {t : TypeId} {x y : Operand} (ho : o.op = .store t x y) {B k n : Nat} (hT : Row t n) {T : TypeId} {l r : List Value} (hx : a.eval x = .pointer (some ⟨B, k, none⟩)) (hy : a.eval y = agv r) (hB : W.heap[B]? = some (bv T l)) (hr : Vs r n) (hle : k + n ≤ l.length) :
    (execOp a.eval o).run Try.prog W = .ok .skip (W.setRow B (ptv l k r).toArray) := by
  unfold execOp
  simp only [ho, hx, hy, Sem.run_bind, run_storev hT hB hr hle, Result.andThen_ok, Sem.run_pure]
theorem ex_build {o : Oper} {a : Act} {W : World} {t : TypeId} {ps : Array (Nat × Operand)} (ho : o.op = .build t ps) {vs : Array (Nat × Value)} {v : Value} (hb : ∀ w, (Instr.build t vs).run Try.prog w = .ok v w) (hv : ps.map (fun q => (q.1, a.eval q.2)) = vs) :
    (execOp a.eval o).run Try.prog W = .ok (.value v) W := by
  unfold execOp
  simp only [ho, hv, Sem.run_bind, hb, Result.andThen_ok, Sem.run_pure]
def hI (H : List Nat) : List Int := H.map Int.ofNat
theorem hI_app (H : List Nat) (i : Nat) : hI (H ++ [i]) = hI H ++ [(i : Int)] := by simp [hI]
theorem bt_at {B : List Bt} {t : Nat} (h : t < B.length) : (ivs (bfl (toI B)))[t * 2]? = some (.int .i64 ((B.getD t (0, 0)).1 : Int)) ∧ (ivs (bfl (toI B)))[t * 2 + 1]? = some (.int .i64 ((B.getD t (0, 0)).2 : Int)) := by
  have e2 : (toI B)[t]? = some (((B.getD t (0, 0)).1 : Int), ((B.getD t (0, 0)).2 : Int)) := by
    unfold toI
    rw [List.getElem?_map, List.getElem?_eq_getElem h, List.getD_eq_getElem?_getD, List.getElem?_eq_getElem h]
    rfl
  have := bfl_at e2
  exact ⟨ivs_at this.1, ivs_at this.2⟩
theorem pow_le {j : Nat} (h : j < 6) : 1 ≤ 2 ^ j ∧ 2 ^ j ≤ 32 := by
  rcases (by omega : j = 0 ∨ j = 1 ∨ j = 2 ∨ j = 3 ∨ j = 4 ∨ j = 5) with rfl | rfl | rfl | rfl | rfl | rfl <;> decide
theorem free_at {S : List En} {p k : Nat} {c : Nat} {x : En} (hx : S[c]? = some x) (hc : cl (p, k / p, k % p) x = true) : free S p k = false := by
  cases q : free S p k with
  | false => rfl
  | true =>
    have := free_iff.1 q x (List.mem_of_getElem? hx)
    rw [hc] at this
    exact absurd this (by simp)
set_option maxHeartbeats 8000000 in
theorem planned_ok (v : Value) (P : List Int) (M : Nat) (w : World) (hv : Ris w v P) (hP : okP P) (hl : P.length ≤ 64) (hM1 : 1 ≤ M) (hM8 : M ≤ 8) (hchk : chk P (M : Int) = 0) :
    Calls Try.prog 10 #[v, .int .i64 (M : Int)] w fun e u => ∃ pv, e = .returned (.tuple #[pv, .int .i64 (match plan P M with | none => 11 | some _ => 0)]) ∧ Tld w u pv (plan P M) ∧ Below w.heap.size w u := by
  obtain ⟨a, c, rfl, hlc, hcm⟩ := hv.form
  have HTK : Hid (Calls Try.prog 23 #[.slice a P.length c, .int .i64 (M : Int)] w fun e w' => e = .returned (.int .i64 0) ∧ w = w') := by have := tasks_any _ P (M : Int) w hv; rw [hchk] at this; exact this
  have HPC : Hid (∀ t, t < P.length → 1 ≤ pN P t ∧ pN P t ≤ 32 ∧ ∃ g off, a = some ⟨g, off, none⟩ ∧ ∀ u, Below w.heap.size w u → u.cell? ⟨g, off + t, none⟩ = some (.int .i64 (pN P t : Int))) := fun t ht => by
    have e1 : P[t]? = some ((pN P t : Nat) : Int) := by rw [← (hP.at ht).2, getD_at ht]; exact List.getElem?_eq_getElem ht
    have q := okp_le (hP.at ht).1
    obtain ⟨g, off, h1, h2⟩ := hv.at t _ e1
    refine ⟨q.1, q.2, g, off, h1, fun u hb => ?_⟩
    obtain ⟨g', off', h1', h2'⟩ := (hv.below hb).at t _ e1
    rw [h1] at h1'
    injection h1' with h1'
    injection h1' with q1 q2 _
    subst q1 q2
    exact h2'
  have HFR : Hid (∀ j i, j < 6 → i < P.length → pN P i = 2 ^ j → ∃ R, ord P = (hd P j i ++ [i]) ++ R) := fun j i hj hi hp => by rw [← hd_yes hp]; exact hd_front hj (by omega)
  have HNX : Hid (∀ (H : List Nat) (B : List Bt) (i k : Nat), Pk P M H B → i < P.length → (∃ R, ord P = (H ++ [i]) ++ R) → fit (sOf P H B) (pN P i) M = some k → Pk P M (H ++ [i]) (B.set i (k / pN P i, k % pN P i))) := fun H B i k h hi hf hk => h.next hP hi hf hk
  have HMK : Hid (∀ (H : List Nat) (B : List Bt), Pk P M H B → B.length = P.length ∧ H.length ≤ P.length ∧ ∀ (c t : Nat), H[c]? = some t → t < P.length ∧ (sOf P H B)[c]? = some (pN P t, B.getD t (0, 0)) ∧ (B.getD t (0, 0)).2 ≤ 1000) := fun H B h => by
    refine ⟨h.mm.len, ?_, fun c t hc => ?_⟩
    · obtain ⟨R, e, _⟩ := h.pl
      have := ord_len hP
      rw [e, List.length_append] at this
      omega
    · have ht := h.mm.lt t (List.mem_of_getElem? hc)
      have hs : (sOf P H B)[c]? = some (pN P t, B.getD t (0, 0)) := by unfold sOf; rw [List.getElem?_map, hc]; rfl
      have hve := h.mm.ve _ (List.mem_of_getElem? hs)
      have h1 : (B.getD t (0, 0)).2 < pN P t := hve.ph
      have h2 := okp_le (hP.at ht).1
      exact ⟨ht, hs, by have := h2.2; omega⟩
  have HNO : Hid (∀ (H : List Nat) (B : List Bt) (i : Nat), Pk P M H B → (∃ R, ord P = (H ++ [i]) ++ R) → fit (sOf P H B) (pN P i) M = none → plan P M = none) := fun H B i h h1 h2 => h.none h1 h2
  have HDN : Hid (∀ (B : List Bt), Pk P M (hd P 6 0) B → plan P M = some B ∧ B.length = P.length) := fun B h => by
    rw [hd_end] at h
    exact ⟨h.done, h.mm.len⟩
  have HP0 : Hid (Pk P M (hd P 0 0) (zB P.length) ∧ List.replicate (P.length * 2) (.int .i64 0) = ivs (bfl (toI (zB P.length)))) := ⟨by rw [hd_zero]; exact Pk.zero P M, (zero_plan _).symm⟩
  have HTN : Hid (∀ j, j < 6 → hd P j P.length = hd P (j + 1) 0) := fun j hj => hd_turn hj
  obtain ⟨R, hR⟩ : ∃ R, plan P M = R := ⟨_, rfl⟩
  rw [hR] at HNO HDN ⊢
  obtain ⟨n, hn⟩ : ∃ n, P.length = n := ⟨_, rfl⟩
  rw [hn] at HTK HPC HFR HNX HMK HDN HP0 HTN hlc hl ⊢
  unfold maxLen at hcm
  have HN : Hid (n ≤ 1000) := by show n ≤ 1000; omega
  have hM := Mm.nil w
  have HM0 : Hid (Mm w w []) := hM
  clear hv hP hR hn hM hchk
  go_enter Try.func10, Try.ntmps10
  have hM := HM0.out
  go_wp2_with fail
  refine (HTK.out).mono ?_
  rintro e uc ⟨rfl, rfl⟩
  repeat' (first | (go_big_may; first | (refine v_make rfl el_berths berths_zero rfl rfl rfl HN.out ?_; intro u gp hN; replace hM := hM.new hN; clear hN)) | go_values | go_skip | go_guarded | go_step | go_upon | (simp only [Int.not_lt, Int.not_le] at *; go_simp))
  have HM : Hid (∃ B, MI w u [(gp, 29, ivs (bfl (toI B)))] (.slice none 0 0) (hI (hd P 0 0)) ∧ Pk P M (hd P 0 0) B) := ⟨zB n, by rw [← HP0.out.2, hd_zero]; exact MI.nil hM, HP0.out.1⟩
  clear hM HM0 HTK HP0 HN
  go_loopw [8, 9] (fun hv pv wr => ∃ j pp : Nat, j ≤ 6 ∧ 2 ^ j = pp ∧ pv = .int .i64 (pp : Int) ∧ Hid (∃ B, MI w wr [(gp, 29, ivs (bfl (toI B)))] hv (hI (hd P j 0)) ∧ Pk P M (hd P j 0) B)) (fun _ pv _ => 64 - (intOf pv).toNat)
  case atStart => exact ⟨0, 1, by omega, rfl, rfl, HM.out⟩
  case round =>
    clear HM
    obtain ⟨j, pp, hj, hpp, rfl, HA⟩ := hrel
    by_cases hj6 : ¬ j < 6
    · have hj6' : j = 6 := by omega
      subst hj6'
      have hpp2 : pp = 64 := by rw [← hpp]
      subst hpp2
      obtain ⟨B, hM, hPk⟩ := HA.out
      obtain ⟨hR, hB⟩ := HDN.out B hPk
      have HQ : Hid (Tld w wr (.slice (some ⟨gp, 0, none⟩) n n) (some B) ∧ Below w.heap.size w wr) := ⟨⟨gp, by rw [hB], hM.at0, hM.mm.own (gp, 29, ivs (bfl (toI B))) (by simp)⟩, hM.below⟩
      subst hR
      clear HA hM hPk HPC HFR HNX HMK HNO HDN HTN hB
      go_wp2
      go_ret2
      exact ⟨_, rfl, HQ.out.1, HQ.out.2⟩
    have hj6 : j < 6 := by omega
    have hpl := pow_le hj6
    rw [hpp] at hpl
    obtain ⟨hp1, hp32⟩ := hpl
    have hpp2 : 2 ^ (j + 1) = pp * 2 := by rw [Nat.pow_succ, hpp]
    have HPP : Hid (2 ^ j = pp ∧ 2 ^ (j + 1) = pp * 2) := ⟨hpp, hpp2⟩
    clear hpp hpp2 hj
    have e32 : decide ((pp : Int) ≤ 32) = true := decide_eq_true (by omega)
    have e33 : (pp : Int) ≤ 32 := by omega
    go_wp2
    go_loopw [8, 31] (fun hv iv wr => ∃ i : Nat, i ≤ n ∧ iv = .int .i64 (i : Int) ∧ Hid (∃ B, MI w wr [(gp, 29, ivs (bfl (toI B)))] hv (hI (hd P j i)) ∧ Pk P M (hd P j i) B)) (fun _ iv _ => n - (intOf iv).toNat)
    case atStart => exact ⟨0, Nat.zero_le _, rfl, HA.out⟩
    case round =>
      clear HA
      obtain ⟨i, hi, rfl, HA⟩ := hrel
      by_cases hin : ¬ i < n
      · have HQ : Hid (∃ B, MI w wr [(gp, 29, ivs (bfl (toI B)))] u8 (hI (hd P (j + 1) 0)) ∧ Pk P M (hd P (j + 1) 0) B) := by
          have := HA.out
          rw [show i = n by omega, HTN.out j hj6] at this
          exact this
        have HPQ : Hid (2 ^ (j + 1) = pp * 2) := HPP.out.2
        clear HA HPC HFR HNX HMK HNO HDN HTN HPP
        go_wp2
        go_roundw
        case rel => exact ⟨j + 1, pp * 2, by omega, HPQ.out, by go_num, HQ.out⟩
        case measure => simp [intOf]; omega
      have hin : i < n := by omega
      obtain ⟨hq1, hq2, g, off, rfl, hcq⟩ := HPC.out i hin
      have hcell := hcq wr (by obtain ⟨B, hM, _⟩ := HA.out; exact hM.below)
      clear hcq
      by_cases hpq : ¬ pN P i = pp
      · have HQ : Hid (∃ B, MI w wr [(gp, 29, ivs (bfl (toI B)))] u8 (hI (hd P j (i + 1))) ∧ Pk P M (hd P j (i + 1)) B) := by
          show ∃ B, _
          rw [hd_no (by rw [HPP.out.1]; exact hpq)]
          exact HA.out
        generalize pN P i = q at *
        have e1 : ((pp : Int) != (q : Int)) = true := by simp; omega
        clear HA HPC HFR HNX HMK HNO HDN HTN HPP hpq
        go_wp2
        go_roundw
        case rel => exact ⟨i + 1, by omega, by go_num, HQ.out⟩
        case measure => simp [intOf]; omega
      have hpq : pN P i = pp := by
        by_cases z : pN P i = pp
        · exact z
        · exact absurd z hpq
      obtain ⟨B, hMB, hPk⟩ := HA.out
      have HF : Hid (∃ R, ord P = (hd P j i ++ [i]) ++ R) := HFR.out j i hj6 hin (by rw [hpq, HPP.out.1])
      have HY : Hid (∀ k, fit (sOf P (hd P j i) B) pp M = some k → Pk P M (hd P j (i + 1)) (B.set i (k / pp, k % pp))) := fun k hk => by
        have := HNX.out (hd P j i) B i k hPk hin HF.out (by rw [hpq]; exact hk)
        rw [hpq, ← hd_yes (by rw [hpq, HPP.out.1])] at this
        exact this
      have HNone : Hid (fit (sOf P (hd P j i) B) pp M = none → R = none) := fun hk => HNO.out (hd P j i) B i hPk HF.out (by rw [hpq]; exact hk)
      have HHd : Hid (hd P j (i + 1) = hd P j i ++ [i]) := hd_yes (by rw [hpq, HPP.out.1])
      obtain ⟨hBl, hHl, hHc⟩ := HMK.out (hd P j i) B hPk
      have HHc : Hid (∀ (c t : Nat), (hd P j i)[c]? = some t → t < n ∧ (sOf P (hd P j i) B)[c]? = some (pN P t, B.getD t (0, 0)) ∧ (B.getD t (0, 0)).2 ≤ 1000) := hHc
      obtain ⟨S, hS⟩ : ∃ S, sOf P (hd P j i) B = S := ⟨_, rfl⟩
      have hSl : S.length = (hd P j i).length := by rw [← hS]; unfold sOf; simp
      rw [hS] at HY HNone HHc
      obtain ⟨Hs, hHs⟩ : ∃ Hs, hd P j i = Hs := ⟨_, rfl⟩
      rw [hHs] at HHc HHd hSl hHl hMB
      rw [hpq] at hcell
      have e1 : ((pp : Int) != (pp : Int)) = false := by simp
      have HML : Hid (i < B.length) := by show i < B.length; rw [hBl]; exact hin
      have HBl : Hid (B.length = n) := hBl
      have HSl : Hid (S.length = Hs.length) := hSl
      obtain ⟨mp, hmp⟩ : ∃ mp, M * pp = mp := ⟨_, rfl⟩
      have smp : (M : Int) * (pp : Int) = (mp : Int) := by rw [← hmp]; simp
      have hmp2 : mp ≤ 256 := by rw [← hmp]; exact Nat.le_trans (Nat.mul_le_mul hM8 hp32) (by omega)
      have HMP : Hid (M * pp = mp) := hmp
      have HI0 : Hid (MI w wr [(gp, 29, ivs (bfl (toI B)))] u8 (hI Hs)) := hMB
      clear HA hPk hMB hHc hS hHs hpq HFR HNX HMK HNO HF hBl hSl hmp HTN HDN
      go_wp2
      go_loopw [12, 13] (fun plv kv wr => ∃ k : Nat, k ≤ mp ∧ kv = .int .i64 (k : Int) ∧ Hid (MI w wr [(gp, 29, ivs (bfl (toI B)))] u8 (hI Hs)) ∧ ((plv = .int .i64 (-1) ∧ Hid (∀ x, x < k → free S pp x = false)) ∨ ∃ q : Nat, plv = .int .i64 (q : Int) ∧ q < mp ∧ Hid (fit S pp M = some q))) (fun _ kv _ => mp - (intOf kv).toNat)
      case atStart => exact ⟨0, Nat.zero_le _, rfl, HI0.out, .inl ⟨rfl, fun x hx => by omega⟩⟩
      case round =>
        clear HI0
        obtain ⟨k, hk, rfl, HMI, hcase⟩ := hrel
        rcases hcase with ⟨rfl, HFr⟩ | ⟨q, rfl, hq, HFt⟩
        · by_cases hkm : ¬ k < mp
          · have HRN : R = none := HNone.out (fit_none (fun x hx => HFr.out x (by rw [HMP.out] at hx; omega)))
            subst HRN
            have HQ : Hid (Below w.heap.size w wr) := HMI.out.below
            clear HMI HFr HY HNone HHc HHd HPC HML HBl HSl HMP HPP
            go_wp2
            go_ret2
            exact ⟨_, rfl, rfl, HQ.out⟩
          have hkm : k < mp := by omega
          have HI1 : Hid (MI w wr [(gp, 29, ivs (bfl (toI B)))] u8 (hI Hs) ∧ ∀ x c, c < 0 → S[c]? = some x → cl (pp, k / pp, k % pp) x = false) := ⟨HMI.out, fun x c h => by omega⟩
          obtain ⟨ha8, c8, h8, hc8, hm8⟩ : ∃ a8 c8, u8 = .slice a8 Hs.length c8 ∧ Hs.length ≤ c8 ∧ c8 ≤ maxLen := by
            obtain ⟨a8, c8, h1, h2, h3⟩ := HMI.out.iw.ris.form
            exact ⟨a8, c8, by simpa [hI] using h1, by simpa [hI] using h2, h3⟩
          subst h8
          obtain ⟨hs, hhs⟩ : ∃ hs, Hs.length = hs := ⟨_, rfl⟩
          rw [hhs] at HI1 HSl hHl hc8 HMI ⊢
          have HHL : Hid (Hs.length = hs) := hhs
          unfold maxLen at hm8
          clear HMI hhs
          go_wp2
          go_loopw [12, 53] (fun plv ov wr => ∃ o : Nat, o ≤ hs ∧ plv = .int .i64 (k : Int) ∧ ov = .int .i64 (o : Int) ∧ Hid (MI w wr [(gp, 29, ivs (bfl (toI B)))] (.slice ha8 hs c8) (hI Hs) ∧ ∀ x c, c < o → S[c]? = some x → cl (pp, k / pp, k % pp) x = false)) (fun _ ov _ => hs - (intOf ov).toNat)
          case atStart => exact ⟨0, Nat.zero_le _, rfl, rfl, HI1.out⟩
          case round =>
            clear HI1
            obtain ⟨o, ho, rfl, rfl, HA⟩ := hrel
            by_cases hos : ¬ o < hs
            · have HQ : Hid (MI w wr [(gp, 29, ivs (bfl (toI B)))] (.slice ha8 hs c8) (hI Hs)) := HA.out.1
              have HFt : Hid (fit S pp M = some k) := fit_some (by rw [HMP.out]; exact hkm) (free_iff.2 fun x hx => by
                obtain ⟨c, hc, e⟩ := List.mem_iff_getElem.1 hx
                exact HA.out.2 x c (by rw [HSl.out] at hc; omega) (by rw [← e]; exact List.getElem?_eq_getElem hc)) (fun x hx => HFr.out x hx)
              clear HA HFr HY HNone HHc HHd HPC HML HBl HSl HMP HPP HHL
              go_wp2
              go_roundw
              case rel => exact ⟨k + 1, by omega, by go_num, HQ.out, .inr ⟨k, rfl, by omega, HFt.out⟩⟩
              case measure => simp [intOf]; omega
            have hos : o < hs := by omega
            obtain ⟨t, ht⟩ : ∃ t, Hs[o]? = some t := ⟨Hs[o]'(by have := HHL.out; omega), List.getElem?_eq_getElem _⟩
            obtain ⟨htn, hsx, hphx⟩ := HHc.out o t ht
            obtain ⟨hr1, hr2, g', off', e', hcr⟩ := HPC.out t htn
            injection e' with e'
            injection e' with z1 z2 _
            subst z1 z2
            obtain ⟨gh, oh, eh, hch⟩ := HA.out.1.iw.ris.at o (t : Int) (by simp [hI, ht])
            subst eh
            obtain ⟨bl, hbl⟩ : ∃ bl, (B.getD t (0, 0)).1 = bl := ⟨_, rfl⟩
            obtain ⟨bp, hbp⟩ : ∃ bp, (B.getD t (0, 0)).2 = bp := ⟨_, rfl⟩
            obtain ⟨r, hr⟩ : ∃ r, pN P t = r := ⟨_, rfl⟩
            have hb2 := bt_at (B := B) (t := t) (by rw [HBl.out]; exact htn)
            have hsx2 : S[o]? = some (r, bl, bp) := by rw [hsx, ← hbl, ← hbp, hr]
            rw [hbl, hbp] at hb2
            rw [hbp] at hphx
            rw [hr] at hr1 hr2 hcr
            have HCR : Hid (∀ W, MI w W [(gp, 29, ivs (bfl (toI B)))] (.slice (some ⟨gh, oh, none⟩) hs c8) (hI Hs) → W.cell? ⟨g, off + t, none⟩ = some (.int .i64 (r : Int)) ∧ W.rangeAt gp (t * 2) (ivs [(bl : Int), (bp : Int)])) := fun W hW => ⟨hcr W hW.below, two_range (bv_cell hW.at0 hb2.1) (bv_cell hW.at0 hb2.2)⟩
            obtain ⟨kd, hkd⟩ : ∃ kd, k / pp = kd := ⟨_, rfl⟩
            obtain ⟨kr, hkr⟩ : ∃ kr, k % pp = kr := ⟨_, rfl⟩
            have hkd1 : kd ≤ 256 := by rw [← hkd]; exact Nat.le_trans (Nat.div_le_self _ _) (by omega)
            have hkr1 : kr ≤ 256 := by rw [← hkr]; exact Nat.le_trans (Nat.mod_le _ _) (by omega)
            have t1 : ((k : Int)).tdiv (pp : Int) = (kd : Int) := by rw [← hkd, Int.tdiv_eq_ediv_of_nonneg (by omega)]; simp
            have t2 : ((k : Int)).tmod (pp : Int) = (kr : Int) := by rw [← hkr, Int.tmod_eq_emod_of_nonneg (by omega)]; simp
            have t3 : IntKind.i64.wrap (kd : Int) = (kd : Int) := by rw [IntKind.wrap_i64]; omega
            have t4 : IntKind.i64.wrap (kr : Int) = (kr : Int) := by rw [IntKind.wrap_i64]; omega
            have p0 : ((pp : Int) == 0) = false := by simp; omega
            have p1 : ¬ (pp : Int) = 0 := by omega
            have p2 : ¬ pp = 0 := by omega
            have HCla : Hid (∀ u, Calls Try.prog 24 #[.int .i64 (pp : Int), agv (ivs [(kd : Int), (kr : Int)]), .int .i64 (r : Int), agv (ivs [(bl : Int), (bp : Int)])] u fun e u' => e = .returned (.bool (cl (pp, kd, kr) (r, bl, bp))) ∧ Below u.heap.size u u') := fun u => clash_any pp r kd kr bl bp u hp1 hp32 hr1 hr2 (by omega) hphx
            have HYc : Hid (cl (pp, kd, kr) (r, bl, bp) = true → free S pp k = false) := fun q => free_at hsx2 (by rw [hkd, hkr]; exact q)
            have HNc : Hid (cl (pp, kd, kr) (r, bl, bp) = false → ∀ x c, c < o + 1 → S[c]? = some x → cl (pp, k / pp, k % pp) x = false) := fun q x c hc hx => by
              by_cases e : c = o
              · subst e
                rw [hsx2] at hx
                injection hx with hx
                rw [← hx, hkd, hkr]
                exact q
              · exact HA.out.2 x c (by omega) hx
            obtain ⟨cb, hcb⟩ : ∃ cb, cl (pp, kd, kr) (r, bl, bp) = cb := ⟨_, rfl⟩
            rw [hcb] at HCla HYc HNc
            have HMI : Hid (MI w wr [(gp, 29, ivs (bfl (toI B)))] (.slice (some ⟨gh, oh, none⟩) hs c8) (hI Hs)) := HA.out.1
            clear HA ht hsx hsx2 hcr hb2 hbl hbp hr hkd hkr hcb
            go_upto_region 21 with (fail)
            refine wp_abs (fun a0 => a0.tmps.size = 93 ∧ (∀ h, a0.tmps[0]'h = .slice (some ⟨g, off, none⟩) n c) ∧ (∀ h, a0.tmps[7]'h = .slice (some ⟨gp, 0, none⟩) n n) ∧ (∀ h, a0.tmps[9]'h = .int .i64 (pp : Int)) ∧ (∀ h, a0.tmps[13]'h = .int .i64 (k : Int)) ∧ (∀ h, a0.tmps[15]'h = .int .i64 (t : Int))) ⟨rfl, fun _ => rfl, fun _ => rfl, fun _ => rfl, fun _ => rfl, fun _ => rfl⟩ ?_
            rintro a0 ⟨hsz, s0, s7, s9, s13, s15⟩ ha0
            refine wp_region_held (S := fun W => MI w W [(gp, 29, ivs (bfl (toI B)))] (.slice (some ⟨gh, oh, none⟩) hs c8) (hI Hs)) (by kernel_rfl) ?_
            obtain ⟨ud, hud⟩ : ∃ ud, wr.drew = ud := ⟨_, rfl⟩
            have hS0 : MI w ud [(gp, 29, ivs (bfl (toI B)))] (.slice (some ⟨gh, oh, none⟩) hs c8) (hI Hs) := by rw [← hud]; exact HMI.out.drew
            show wpAnyH _ _ _ _ _ _ _ _ wr.drew
            rw [hud]
            refine h_take (i := 0) (.int .i64 (pp : Int)) rfl (by kernel_rfl) (by kernel_rfl) (by kernel_rfl) (fun _ _ _ h => h) rfl hS0 (fun W hW => by simp [execOp, go_sem, Act.put, hsz, s0, s7, s9, s13, s15, htn, t1, t2, t3, t4, p0, p1, p2]) ?_
            refine h_take (i := 1) (.int .i64 (k : Int)) rfl (by kernel_rfl) (by kernel_rfl) (by kernel_rfl) (fun _ _ _ h => h) rfl hS0 (fun W hW => by simp [execOp, go_sem, Act.put, hsz, s0, s7, s9, s13, s15, htn, t1, t2, t3, t4, p0, p1, p2]) ?_
            refine h_take (i := 2) (.int .i64 (pp : Int)) rfl (by kernel_rfl) (by kernel_rfl) (by kernel_rfl) (fun _ _ _ h => h) rfl hS0 (fun W hW => by simp [execOp, go_sem, Act.put, hsz, s0, s7, s9, s13, s15, htn, t1, t2, t3, t4, p0, p1, p2]) ?_
            refine h_take (i := 3) (.int .i64 (kd : Int)) rfl (by kernel_rfl) (by kernel_rfl) (by kernel_rfl) (fun _ _ _ h => h) rfl hS0 (fun W hW => by simp [execOp, go_sem, Act.put, hsz, s0, s7, s9, s13, s15, htn, t1, t2, t3, t4, p0, p1, p2]) ?_
            refine h_take (i := 4) (.int .i64 (k : Int)) rfl (by kernel_rfl) (by kernel_rfl) (by kernel_rfl) (fun _ _ _ h => h) rfl hS0 (fun W hW => by simp [execOp, go_sem, Act.put, hsz, s0, s7, s9, s13, s15, htn, t1, t2, t3, t4, p0, p1, p2]) ?_
            refine h_take (i := 5) (.int .i64 (pp : Int)) rfl (by kernel_rfl) (by kernel_rfl) (by kernel_rfl) (fun _ _ _ h => h) rfl hS0 (fun W hW => by simp [execOp, go_sem, Act.put, hsz, s0, s7, s9, s13, s15, htn, t1, t2, t3, t4, p0, p1, p2]) ?_
            refine h_take (i := 6) (.int .i64 (kr : Int)) rfl (by kernel_rfl) (by kernel_rfl) (by kernel_rfl) (fun _ _ _ h => h) rfl hS0 (fun W hW => by simp [execOp, go_sem, Act.put, hsz, s0, s7, s9, s13, s15, htn, t1, t2, t3, t4, p0, p1, p2]) ?_
            refine h_take (i := 7) (agv (ivs [(kd : Int), (kr : Int)])) rfl (by kernel_rfl) (by kernel_rfl) (by kernel_rfl) (fun _ _ _ h => h) rfl hS0 (fun W hW => ex_build rfl (bld_berth _ _) (by simp [go_sem, Act.put, hsz])) ?_
            refine h_take (i := 8) (.slice (some ⟨g, off, none⟩) n c) rfl (by kernel_rfl) (by kernel_rfl) (by kernel_rfl) (fun _ _ _ h => h) rfl hS0 (fun W hW => by simp [execOp, go_sem, Act.put, hsz, s0, s7, s9, s13, s15, htn, t1, t2, t3, t4, p0, p1, p2]) ?_
            refine h_take (i := 9) (.int .i64 (t : Int)) rfl (by kernel_rfl) (by kernel_rfl) (by kernel_rfl) (fun _ _ _ h => h) rfl hS0 (fun W hW => by simp [execOp, go_sem, Act.put, hsz, s0, s7, s9, s13, s15, htn, t1, t2, t3, t4, p0, p1, p2]) ?_
            refine h_take (i := 10) (.pointer (some ⟨g, off + t, none⟩)) rfl (by kernel_rfl) (by kernel_rfl) (by kernel_rfl) (fun _ _ _ h => h) rfl hS0 (fun W hW => by simp [execOp, go_sem, Act.put, hsz, s0, s7, s9, s13, s15, htn, t1, t2, t3, t4, p0, p1, p2]) ?_
            refine h_take (i := 11) (.int .i64 (r : Int)) rfl (by kernel_rfl) (by kernel_rfl) (by kernel_rfl) (fun _ _ _ h => h) rfl hS0 (fun W hW => ex_getv (p := ⟨g, off + t, none⟩) rfl (.inl rfl) (by simp [go_sem, Act.put, hsz]) (HCR.out W hW).1) ?_
            refine h_take (i := 12) (.slice (some ⟨gp, 0, none⟩) n n) rfl (by kernel_rfl) (by kernel_rfl) (by kernel_rfl) (fun _ _ _ h => h) rfl hS0 (fun W hW => by simp [execOp, go_sem, Act.put, hsz, s0, s7, s9, s13, s15, htn, t1, t2, t3, t4, p0, p1, p2]) ?_
            refine h_take (i := 13) (.int .i64 (t : Int)) rfl (by kernel_rfl) (by kernel_rfl) (by kernel_rfl) (fun _ _ _ h => h) rfl hS0 (fun W hW => by simp [execOp, go_sem, Act.put, hsz, s0, s7, s9, s13, s15, htn, t1, t2, t3, t4, p0, p1, p2]) ?_
            refine h_take (i := 14) (.pointer (some ⟨gp, t * 2, none⟩)) rfl (by kernel_rfl) (by kernel_rfl) (by kernel_rfl) (fun _ _ _ h => h) rfl hS0 (fun W hW => by simp [execOp, go_sem, Act.put, hsz, s0, s7, s9, s13, s15, htn, t1, t2, t3, t4, p0, p1, p2]) ?_
            refine h_take (i := 15) (agv (ivs [(bl : Int), (bp : Int)])) rfl (by kernel_rfl) (by kernel_rfl) (by kernel_rfl) (fun _ _ _ h => h) rfl hS0 (fun W hW => ex_ldR rfl row_berth (by simp [go_sem, Act.put, hsz]) (HCR.out W hW).2 rfl) ?_
            refine h_call (i := 16) 24 #[.int .i64 (pp : Int), agv (ivs [(kd : Int), (kr : Int)]), .int .i64 (r : Int), agv (ivs [(bl : Int), (bp : Int)])] rfl (by kernel_rfl) rfl (by simp [execOp, go_sem, Act.put, hsz, s0, s7, s9, s13, s15, htn, t1, t2, t3, t4, p0, p1, p2]) ((HCla.out _).mono ?_)
            rintro e u6 ⟨rfl, hb6⟩
            have hS6 := hS0.call hb6
            refine ⟨_, rfl, hS6, ?_⟩
            refine wpAnyH_done (by kernel_rfl) ?_ _
            subst ha0
            have HB6 : Hid (MI w u6 [(gp, 29, ivs (bfl (toI B)))] (.slice (some ⟨gh, oh, none⟩) hs c8) (hI Hs)) := hS6
            clear hsz s0 s7 s9 s13 s15 hS0 hS6 hb6 hud HMI HCla HCR
            go_simp
            cases cb with
            | true =>
              have HQ : Hid (∀ x, x < k + 1 → free S pp x = false) := fun x hx => by
                by_cases e : x = k
                · rw [e]; exact HYc.out rfl
                · exact HFr.out x (by omega)
              clear HYc HNc HFr HY HNone HHc HHd HPC HML HBl HSl HMP HPP HHL
              go_wp2
              go_roundw
              case rel => exact ⟨k + 1, by omega, by go_num, HB6.out, .inl ⟨rfl, HQ.out⟩⟩
              case measure => simp [intOf]; omega
            | false =>
              have HQ : Hid (∀ x c, c < o + 1 → S[c]? = some x → cl (pp, k / pp, k % pp) x = false) := HNc.out rfl
              clear HYc HNc HFr HY HNone HHc HHd HPC HML HBl HSl HMP HPP HHL
              go_wp2
              go_roundw
              case rel => exact ⟨o + 1, by omega, rfl, by go_num, HB6.out, HQ.out⟩
              case measure => simp [intOf]; omega
        · obtain ⟨qd, hqd⟩ : ∃ qd, q / pp = qd := ⟨_, rfl⟩
          obtain ⟨qr, hqr⟩ : ∃ qr, q % pp = qr := ⟨_, rfl⟩
          have HPk : Hid (Pk P M (hd P j (i + 1)) (B.set i (qd, qr))) := by have := HY.out q HFt.out; rw [hqd, hqr] at this; exact this
          have hqd1 : qd ≤ 256 := by rw [← hqd]; exact Nat.le_trans (Nat.div_le_self _ _) (by omega)
          have hqr1 : qr ≤ 256 := by rw [← hqr]; exact Nat.le_trans (Nat.mod_le _ _) (by omega)
          have t1 : ((q : Int)).tdiv (pp : Int) = (qd : Int) := by rw [← hqd, Int.tdiv_eq_ediv_of_nonneg (by omega)]; simp
          have t2 : ((q : Int)).tmod (pp : Int) = (qr : Int) := by rw [← hqr, Int.tmod_eq_emod_of_nonneg (by omega)]; simp
          have t3 : IntKind.i64.wrap (qd : Int) = (qd : Int) := by rw [IntKind.wrap_i64]; omega
          have t4 : IntKind.i64.wrap (qr : Int) = (qr : Int) := by rw [IntKind.wrap_i64]; omega
          have p0 : ((pp : Int) == 0) = false := by simp; omega
          have p1 : ¬ (pp : Int) = 0 := by omega
          have p2 : ¬ pp = 0 := by omega
          have HPT : Hid (ptv (ivs (bfl (toI B))) (i * 2) (ivs [(qd : Int), (qr : Int)]) = ivs (bfl (toI (B.set i (qd, qr))))) := ptv_berth HML.out
          have HLT : Hid (i * 2 + 2 ≤ (ivs (bfl (toI B))).length) := by show _ ≤ _; rw [ivs_length, bfl_len, toI_len, HBl.out]; omega
          have HLH : Hid ((hI Hs).length ≤ 1000) := by show _ ≤ _; simp [hI]; omega
          obtain ⟨PB, hPB⟩ : ∃ PB, ivs (bfl (toI B)) = PB := ⟨_, rfl⟩
          rw [hPB] at HMI HPT HLT
          clear HFt HY HNone HHc HPC HML HBl HSl HMP HPP hqd hqr hPB
          by_cases hkm : k < mp
          · go_upto_region 26 with (fail)
            refine wp_abs (fun a0 => a0.tmps.size = 93 ∧ (∀ h, a0.tmps[7]'h = .slice (some ⟨gp, 0, none⟩) n n) ∧ (∀ h, a0.tmps[9]'h = .int .i64 (pp : Int)) ∧ (∀ h, a0.tmps[10]'h = .int .i64 (i : Int)) ∧ (∀ h, a0.tmps[12]'h = .int .i64 (q : Int))) ⟨rfl, fun _ => rfl, fun _ => rfl, fun _ => rfl, fun _ => rfl⟩ ?_
            rintro a0 ⟨hsz, s7, s9, s10, s12⟩ ha0
            refine wp_region_held (S := fun W => True) (by kernel_rfl) ?_
            obtain ⟨ud, hud⟩ : ∃ ud, wr.drew = ud := ⟨_, rfl⟩
            have hM := HMI.out.drew
            rw [hud] at hM
            have hS0 : True := trivial
            show wpAnyH _ _ _ _ _ _ _ _ wr.drew
            rw [hud]
            refine h_take (i := 0) (.slice (some ⟨gp, 0, none⟩) n n) rfl (by kernel_rfl) (by kernel_rfl) (by kernel_rfl) (fun _ _ _ h => h) rfl hS0 (fun W hW => by simp [execOp, go_sem, Act.put, hsz, s7, s9, s10, s12, hin, t1, t2, t3, t4, p0, p1, p2]) ?_
            refine h_take (i := 1) (.int .i64 (i : Int)) rfl (by kernel_rfl) (by kernel_rfl) (by kernel_rfl) (fun _ _ _ h => h) rfl hS0 (fun W hW => by simp [execOp, go_sem, Act.put, hsz, s7, s9, s10, s12, hin, t1, t2, t3, t4, p0, p1, p2]) ?_
            refine h_take (i := 2) (.int .i64 (q : Int)) rfl (by kernel_rfl) (by kernel_rfl) (by kernel_rfl) (fun _ _ _ h => h) rfl hS0 (fun W hW => by simp [execOp, go_sem, Act.put, hsz, s7, s9, s10, s12, hin, t1, t2, t3, t4, p0, p1, p2]) ?_
            refine h_take (i := 3) (.int .i64 (pp : Int)) rfl (by kernel_rfl) (by kernel_rfl) (by kernel_rfl) (fun _ _ _ h => h) rfl hS0 (fun W hW => by simp [execOp, go_sem, Act.put, hsz, s7, s9, s10, s12, hin, t1, t2, t3, t4, p0, p1, p2]) ?_
            refine h_take (i := 4) (.int .i64 (qd : Int)) rfl (by kernel_rfl) (by kernel_rfl) (by kernel_rfl) (fun _ _ _ h => h) rfl hS0 (fun W hW => by simp [execOp, go_sem, Act.put, hsz, s7, s9, s10, s12, hin, t1, t2, t3, t4, p0, p1, p2]) ?_
            refine h_take (i := 5) (.int .i64 (q : Int)) rfl (by kernel_rfl) (by kernel_rfl) (by kernel_rfl) (fun _ _ _ h => h) rfl hS0 (fun W hW => by simp [execOp, go_sem, Act.put, hsz, s7, s9, s10, s12, hin, t1, t2, t3, t4, p0, p1, p2]) ?_
            refine h_take (i := 6) (.int .i64 (pp : Int)) rfl (by kernel_rfl) (by kernel_rfl) (by kernel_rfl) (fun _ _ _ h => h) rfl hS0 (fun W hW => by simp [execOp, go_sem, Act.put, hsz, s7, s9, s10, s12, hin, t1, t2, t3, t4, p0, p1, p2]) ?_
            refine h_take (i := 7) (.int .i64 (qr : Int)) rfl (by kernel_rfl) (by kernel_rfl) (by kernel_rfl) (fun _ _ _ h => h) rfl hS0 (fun W hW => by simp [execOp, go_sem, Act.put, hsz, s7, s9, s10, s12, hin, t1, t2, t3, t4, p0, p1, p2]) ?_
            refine h_take (i := 8) (agv (ivs [(qd : Int), (qr : Int)])) rfl (by kernel_rfl) (by kernel_rfl) (by kernel_rfl) (fun _ _ _ h => h) rfl hS0 (fun W hW => ex_build rfl (bld_berth _ _) (by simp [go_sem, Act.put, hsz])) ?_
            refine h_take (i := 9) (.pointer (some ⟨gp, i * 2, none⟩)) rfl (by kernel_rfl) (by kernel_rfl) (by kernel_rfl) (fun _ _ _ h => h) rfl hS0 (fun W hW => by simp [execOp, go_sem, Act.put, hsz, s7, s9, s10, s12, hin, t1, t2, t3, t4, p0, p1, p2]) ?_
            refine h_skip (i := 10) (w' := ud.setRow gp (ptv PB (i * 2) (ivs [(qd : Int), (qr : Int)])).toArray) rfl (by kernel_rfl) rfl (ex_storev rfl row_berth (by simp [go_sem, Act.put, hsz]) (by simp [go_sem, Act.put, hsz]) hM.at0 (two_vs _ _) HLT.out) trivial ?_
            have hM2 : MI w (ud.setRow gp (ptv PB (i * 2) (ivs [(qd : Int), (qr : Int)])).toArray) [(gp, 29, ptv PB (i * 2) (ivs [(qd : Int), (qr : Int)]))] u8 (hI Hs) := hM.put0 (setRow_chg _ hM.at0) (setRow_heap _ _ _ _ _ _ hM.at0)
            refine wpAnyH_done (by kernel_rfl) ?_ _
            obtain ⟨u7, hu7⟩ : ∃ u7, ud.setRow gp (ptv PB (i * 2) (ivs [(qd : Int), (qr : Int)])).toArray = u7 := ⟨_, rfl⟩
            rw [hu7] at hM2 ⊢
            subst ha0
            clear hsz s7 s9 s10 s12 hS0 hM hud hu7 HMI
            go_simp
            replace hM := hM2
            clear hM2
            repeat' (first | (go_big_may; first | (refine a_bs rfl rfl rfl ?_; intro u3 gb hb hcb; replace hM := hM.call hb; clear hb) | (refine a_app rfl rfl rfl rfl hM hcb HLH.out ?_; intro u4 tv4 hM4; clear hM hcb)) | go_values | go_skip | go_guarded | go_step | go_upon | (simp only [Int.not_lt, Int.not_le] at *; go_simp))
            go_roundw
            case rel => exact ⟨i + 1, by omega, by go_num, _, by rw [HHd.out, hI_app, ← HPT.out]; exact hM4, HPk.out⟩
            case measure => simp [intOf]; omega
          · go_upto_region 26 with (fail)
            refine wp_abs (fun a0 => a0.tmps.size = 93 ∧ (∀ h, a0.tmps[7]'h = .slice (some ⟨gp, 0, none⟩) n n) ∧ (∀ h, a0.tmps[9]'h = .int .i64 (pp : Int)) ∧ (∀ h, a0.tmps[10]'h = .int .i64 (i : Int)) ∧ (∀ h, a0.tmps[12]'h = .int .i64 (q : Int))) ⟨rfl, fun _ => rfl, fun _ => rfl, fun _ => rfl, fun _ => rfl⟩ ?_
            rintro a0 ⟨hsz, s7, s9, s10, s12⟩ ha0
            refine wp_region_held (S := fun W => True) (by kernel_rfl) ?_
            obtain ⟨ud, hud⟩ : ∃ ud, wr.drew = ud := ⟨_, rfl⟩
            have hM := HMI.out.drew
            rw [hud] at hM
            have hS0 : True := trivial
            show wpAnyH _ _ _ _ _ _ _ _ wr.drew
            rw [hud]
            refine h_take (i := 0) (.slice (some ⟨gp, 0, none⟩) n n) rfl (by kernel_rfl) (by kernel_rfl) (by kernel_rfl) (fun _ _ _ h => h) rfl hS0 (fun W hW => by simp [execOp, go_sem, Act.put, hsz, s7, s9, s10, s12, hin, t1, t2, t3, t4, p0, p1, p2]) ?_
            refine h_take (i := 1) (.int .i64 (i : Int)) rfl (by kernel_rfl) (by kernel_rfl) (by kernel_rfl) (fun _ _ _ h => h) rfl hS0 (fun W hW => by simp [execOp, go_sem, Act.put, hsz, s7, s9, s10, s12, hin, t1, t2, t3, t4, p0, p1, p2]) ?_
            refine h_take (i := 2) (.int .i64 (q : Int)) rfl (by kernel_rfl) (by kernel_rfl) (by kernel_rfl) (fun _ _ _ h => h) rfl hS0 (fun W hW => by simp [execOp, go_sem, Act.put, hsz, s7, s9, s10, s12, hin, t1, t2, t3, t4, p0, p1, p2]) ?_
            refine h_take (i := 3) (.int .i64 (pp : Int)) rfl (by kernel_rfl) (by kernel_rfl) (by kernel_rfl) (fun _ _ _ h => h) rfl hS0 (fun W hW => by simp [execOp, go_sem, Act.put, hsz, s7, s9, s10, s12, hin, t1, t2, t3, t4, p0, p1, p2]) ?_
            refine h_take (i := 4) (.int .i64 (qd : Int)) rfl (by kernel_rfl) (by kernel_rfl) (by kernel_rfl) (fun _ _ _ h => h) rfl hS0 (fun W hW => by simp [execOp, go_sem, Act.put, hsz, s7, s9, s10, s12, hin, t1, t2, t3, t4, p0, p1, p2]) ?_
            refine h_take (i := 5) (.int .i64 (q : Int)) rfl (by kernel_rfl) (by kernel_rfl) (by kernel_rfl) (fun _ _ _ h => h) rfl hS0 (fun W hW => by simp [execOp, go_sem, Act.put, hsz, s7, s9, s10, s12, hin, t1, t2, t3, t4, p0, p1, p2]) ?_
            refine h_take (i := 6) (.int .i64 (pp : Int)) rfl (by kernel_rfl) (by kernel_rfl) (by kernel_rfl) (fun _ _ _ h => h) rfl hS0 (fun W hW => by simp [execOp, go_sem, Act.put, hsz, s7, s9, s10, s12, hin, t1, t2, t3, t4, p0, p1, p2]) ?_
            refine h_take (i := 7) (.int .i64 (qr : Int)) rfl (by kernel_rfl) (by kernel_rfl) (by kernel_rfl) (fun _ _ _ h => h) rfl hS0 (fun W hW => by simp [execOp, go_sem, Act.put, hsz, s7, s9, s10, s12, hin, t1, t2, t3, t4, p0, p1, p2]) ?_
            refine h_take (i := 8) (agv (ivs [(qd : Int), (qr : Int)])) rfl (by kernel_rfl) (by kernel_rfl) (by kernel_rfl) (fun _ _ _ h => h) rfl hS0 (fun W hW => ex_build rfl (bld_berth _ _) (by simp [go_sem, Act.put, hsz])) ?_
            refine h_take (i := 9) (.pointer (some ⟨gp, i * 2, none⟩)) rfl (by kernel_rfl) (by kernel_rfl) (by kernel_rfl) (fun _ _ _ h => h) rfl hS0 (fun W hW => by simp [execOp, go_sem, Act.put, hsz, s7, s9, s10, s12, hin, t1, t2, t3, t4, p0, p1, p2]) ?_
            refine h_skip (i := 10) (w' := ud.setRow gp (ptv PB (i * 2) (ivs [(qd : Int), (qr : Int)])).toArray) rfl (by kernel_rfl) rfl (ex_storev rfl row_berth (by simp [go_sem, Act.put, hsz]) (by simp [go_sem, Act.put, hsz]) hM.at0 (two_vs _ _) HLT.out) trivial ?_
            have hM2 : MI w (ud.setRow gp (ptv PB (i * 2) (ivs [(qd : Int), (qr : Int)])).toArray) [(gp, 29, ptv PB (i * 2) (ivs [(qd : Int), (qr : Int)]))] u8 (hI Hs) := hM.put0 (setRow_chg _ hM.at0) (setRow_heap _ _ _ _ _ _ hM.at0)
            refine wpAnyH_done (by kernel_rfl) ?_ _
            obtain ⟨u7, hu7⟩ : ∃ u7, ud.setRow gp (ptv PB (i * 2) (ivs [(qd : Int), (qr : Int)])).toArray = u7 := ⟨_, rfl⟩
            rw [hu7] at hM2 ⊢
            subst ha0
            clear hsz s7 s9 s10 s12 hS0 hM hud hu7 HMI
            go_simp
            replace hM := hM2
            clear hM2
            repeat' (first | (go_big_may; first | (refine a_bs rfl rfl rfl ?_; intro u3 gb hb hcb; replace hM := hM.call hb; clear hb) | (refine a_app rfl rfl rfl rfl hM hcb HLH.out ?_; intro u4 tv4 hM4; clear hM hcb)) | go_values | go_skip | go_guarded | go_step | go_upon | (simp only [Int.not_lt, Int.not_le] at *; go_simp))
            go_roundw
            case rel => exact ⟨i + 1, by omega, by go_num, _, by rw [HHd.out, hI_app, ← HPT.out]; exact hM4, HPk.out⟩
            case measure => simp [intOf]; omega
theorem planned_any (v : Value) (P : List Int) (m : Int) (w : World) (hv : Ris w v P) : Calls Try.prog 10 #[v, .int .i64 m] w fun e u => ∃ pv, e = .returned (.tuple #[pv, .int .i64 (plC P m)]) ∧ Tld w u pv (plR P m) ∧ Below w.heap.size w u := by
  by_cases h : chk P m = 0
  · obtain ⟨h1, h2, h3, h4⟩ := chk_ok h
    obtain ⟨M, rfl⟩ := Int.eq_ofNat_of_zero_le (show 0 ≤ m by omega)
    have := planned_ok v P M w hv h4 h3 (by omega) (by omega) h
    unfold plC plR
    rw [if_pos h, if_pos h, Int.toNat_natCast]
    exact this
  · have HC : Hid (Calls Try.prog 23 #[v, .int .i64 m] w fun e w' => e = .returned (.int .i64 (chk P m)) ∧ w = w') := tasks_any v P m w hv
    unfold plC plR
    rw [if_neg h, if_neg h]
    obtain ⟨z, hz⟩ : ∃ z, chk P m = z := ⟨_, rfl⟩
    rw [hz] at HC h ⊢
    have e1 : (z != 0) = true := by simpa using h
    clear hv hz h
    go_enter Try.func10, Try.ntmps10
    go_wp2_with fail
    refine (HC.out).mono ?_
    rintro e u ⟨rfl, rfl⟩
    clear HC
    go_wp2
    go_ret2
    exact ⟨_, rfl, rfl, Below.refl _ _⟩
end Go.Proofs.Ytcenaleladjakaa.budget
