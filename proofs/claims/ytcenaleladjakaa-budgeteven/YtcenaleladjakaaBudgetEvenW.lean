/- BudgetEven: in 32 frames in a row each task comes as often as its period asks, no frame has more than there are lanes. -/
import Derived.Test.YtcenaleladjakaaBudEv
namespace Go.Proofs.Ytcenaleladjakaa.budgetEven
open Go.RowKit Go.Proofs.Ytcenaleladjakaa.budget
set_option linter.unusedVariables false
set_option linter.unusedSimpArgs false
set_option maxRecDepth 100000

set_option maxHeartbeats 8000000 in
theorem main (v : Value) (P : List Int) (pv : Value) (T : List Bi) (m : Int) (F : Nat) (w : World) (hp : Ris w v P) (hq : Rbs w pv T) (hck : chkP P T m = 0) (hF : F ≤ 1099511627776) :
    Calls Try.prog 8 #[v, pv, .int .i64 m, .int .i64 (F : Int)] w fun e w' => e = .returned (.bool true) ∧ Below w.heap.size w w' := by
  have HC : Hid (∀ u, Below w.heap.size w u → Calls Try.prog 14 #[v, pv, .int .i64 m] u fun e w' => e = .returned (.int .i64 0) ∧ Below u.heap.size u w') := fun u hb => by
    have := checkP_any v pv P T m u (hp.below hb) (hq.below hb)
    rw [hck] at this
    exact this
  have HL : Hid (∀ u, Calls Try.prog 17 #[] u fun e w' => e = .returned (.bool true) ∧ Below u.heap.size u w') := lives_any
  have HLo : Hid (∀ u (G : Nat), Below w.heap.size w u → (G : Int) ≤ 9223372036854775807 → Calls Try.prog 12 #[v, pv, .int .i64 m, .int .i64 (G : Int)] u fun e u' => ∃ tv, e = .returned (.tuple #[tv, .int .i64 0]) ∧ Iw u' u.heap.size tv (ldA (ensI P T) G m.toNat) ∧ Below u.heap.size u u') := fun u G hb hG => load_ok v pv P T m G u (hp.below hb) (hq.below hb) hck hG
  obtain ⟨M, rfl, hM1, hM8, hl, hP, hT, hA, hAp, hE⟩ := chkP_ok hck
  rw [Int.toNat_natCast] at HLo
  have hve := ensI_ve hP hA
  obtain ⟨a, c, rfl, hlc, hcm⟩ := hp.form
  have HPC : Hid (∀ i, i < P.length → ∃ (p : Nat) (x : En), 1 ≤ p ∧ p ≤ 32 ∧ (ensI P T)[i]? = some x ∧ x.1 = p ∧ tm F 32 x = 32 / p ∧ ∃ g off, a = some ⟨g, off, none⟩ ∧ ∀ u, Below w.heap.size w u → u.cell? ⟨g, off + i, none⟩ = some (.int .i64 (p : Int))) := fun i hi => by
    have e1 : P[i]? = some ((pN P i : Nat) : Int) := by rw [← (hP.at hi).2, getD_at hi]; exact List.getElem?_eq_getElem hi
    have q := okp_le (hP.at hi).1
    have ex := List.getElem?_eq_getElem (l := ensI P T) (i := i) (by omega)
    have hx := hve _ (List.mem_of_getElem? ex)
    have e3 : ((ensI P T)[i]'(by omega)).1 = pN P i := by
      have e2 := List.getElem?_eq_getElem (l := T) (i := i) (by omega)
      have e4 : (ensI P T)[i]? = some (enI (((pN P i : Nat) : Int), T[i]'(by omega))) := by unfold ensI; rw [List.getElem?_map, zip_at e1 e2]; rfl
      rw [ex] at e4
      injection e4 with e4
      rw [e4]
      simp [enI]
    refine ⟨pN P i, _, q.1, q.2, ex, e3, ?_, ?_⟩
    · rw [← e3]
      exact shift_one hx.ok hx.ph
    · obtain ⟨g, off, h1, h2⟩ := hp.at i _ e1
      refine ⟨g, off, h1, fun u hb => ?_⟩
      obtain ⟨g', off', h1', h2'⟩ := (hp.below hb).at i _ e1
      rw [h1] at h1'
      injection h1' with h1'
      injection h1' with q1 q2 _
      subst q1 q2
      exact h2'
  obtain ⟨E, hEE⟩ : ∃ E, ensI P T = E := ⟨_, rfl⟩
  rw [hEE] at HLo HPC hE hve hAp
  have HNX : Hid (∀ r, bump (tms E F r) (ldA E (F + r) M) = tms E F (r + 1)) := fun r => tms_next hve
  have HLE : Hid (∀ G, (ldA E G M).length ≤ M) := fun G => ldA_le hve hAp M
  have HIn : Hid (∀ (G k : Nat) (y : Int), (ldA E G M)[k]? = some y → ∃ t, t < E.length ∧ y = (t : Int)) := fun G k y h => ldA_mem (List.mem_of_getElem? h)
  obtain ⟨a2, c2, rfl, hlc2, hcm2⟩ := hq.form
  rw [hT] at HC HLo hlc2 ⊢
  obtain ⟨n, hn⟩ : ∃ n, P.length = n := ⟨_, rfl⟩
  rw [hn] at HC HLo HPC hE hl hlc hlc2 ⊢
  rw [hE] at HIn
  have HEl : Hid (E.length = n) := hE
  have HTL : Hid (∀ r, (tms E F r).length = n) := fun r => by simp [tms, hE]
  have HTB : Hid (∀ (r i : Nat) (l : List Int), r ≤ 32 → i < n → (∀ y ∈ l, ∃ t, t < n ∧ y = ((t : Nat) : Int)) → l.length ≤ 8 → 0 ≤ (bump (tms E F r) l).getD i 0 ∧ (bump (tms E F r) l).getD i 0 ≤ 100) := fun r i l hr hi hy hl8 => by
    have hx := List.getElem?_eq_getElem (l := E) (i := i) (by omega)
    have h1 := bump_at hi l (tms E F r) (by simp [tms, hE]) hy
    rw [h1, tms_at hx]
    have h2 := tm_le F r E[i]
    have h3 := List.count_le_length (a := (i : Int)) (l := l)
    omega
  have HZ : Hid (List.replicate (n * 1) (.int .i64 0) = ivs (tms E F 0)) := by show _ = _; rw [tms_zero, hE]; simp [ivs]
  have HN : Hid (n ≤ 1000) := by show n ≤ 1000; omega
  unfold maxLen at hcm hcm2
  clear hp hq hck hP hT hA hEE hn hE hve hAp
  go_enter Try.func8, Try.ntmps8
  go_wp2_with fail
  refine (HL.out w).mono ?_
  rintro e u ⟨rfl, hb⟩
  have HB : Hid (Below w.heap.size w u) := hb
  clear hb HL
  go_wp2_with fail
  refine (HC.out u HB.out).mono ?_
  rintro e u2 ⟨rfl, hb⟩
  have hM := (Mm.nil w).call (bsq HB.out hb)
  clear hb HB HC
  repeat' (first | (go_big_may; first | (refine v_make rfl el_ints ints_zero rfl rfl rfl HN.out ?_; intro u gt hN; replace hM := hM.new hN; clear hN)) | go_values | go_skip | go_guarded | go_step | go_upon | (simp only [Int.not_lt, Int.not_le] at *; go_simp))
  have HM0 : Hid (Mm w u [(gt, 3, ivs (tms E F 0))]) := by rw [← HZ.out]; exact hM
  clear hM HZ HN
  go_loopw [38] (fun rv wr => ∃ r : Nat, r ≤ 32 ∧ rv = .int .i64 (r : Int) ∧ Hid (Mm w wr [(gt, 3, ivs (tms E F r))])) (fun rv _ => 32 - (intOf rv).toNat)
  case atStart => exact ⟨0, by omega, rfl, HM0.out⟩
  case round =>
    clear HM0
    obtain ⟨r, hr, rfl, HA⟩ := hrel
    by_cases hr32 : ¬ r < 32
    · have HT : Hid (Mm w wr [(gt, 3, ivs (tms E F 32))]) := by have := HA.out; rw [show r = 32 by omega] at this; exact this
      clear HA HLo HNX HLE HIn HTB
      go_wp2
      go_loopw [83] (fun iv wr => ∃ i : Nat, i ≤ n ∧ iv = .int .i64 (i : Int) ∧ Hid (Mm w wr [(gt, 3, ivs (tms E F 32))])) (fun iv _ => n - (intOf iv).toNat)
      case atStart => exact ⟨0, Nat.zero_le _, rfl, HT.out⟩
      case round =>
        clear HT
        obtain ⟨i, hi, rfl, HA⟩ := hrel
        by_cases hin : ¬ i < n
        · have HB : Hid (Below w.heap.size w wr) := HA.out.below
          clear HA HPC HEl HTL
          go_wp2
          go_ret
          exact ⟨rfl, HB.out⟩
        have hin : i < n := by omega
        obtain ⟨p, x, hp1, hp2, hx, hxp, htm, g, off, rfl, hc⟩ := HPC.out i hin
        have hcp := hc wr HA.out.below
        have hct : wr.cell? ⟨gt, i, none⟩ = some (.int .i64 ((32 / p : Nat) : Int)) := bv_cell HA.out.at0 (ivs_at (by
          have h1 := tms_at (F := F) (r := 32) hx
          rw [htm] at h1
          have hl2 : i < (tms E F 32).length := by rw [HTL.out]; exact hin
          rw [getD_at hl2] at h1
          rw [List.getElem?_eq_getElem hl2, h1]))
        obtain ⟨q, hq⟩ : ∃ q, 32 / p = q := ⟨_, rfl⟩
        rw [hq] at hct
        have hq32 : q ≤ 32 := by rw [← hq]; exact Nat.div_le_self _ _
        have t2 : (32 : Int).tdiv (p : Int) = (q : Int) := by rw [← hq, Int.tdiv_eq_ediv_of_nonneg (by omega)]; simp
        have t3 : IntKind.i64.wrap (q : Int) = (q : Int) := by rw [IntKind.wrap_i64]; omega
        have p0 : ((p : Int) == 0) = false := by simp; omega
        have p1 : ¬ (p : Int) = 0 := by omega
        have p2 : ¬ p = 0 := by omega
        have en : ((q : Int) != (q : Int)) = false := by simp
        have HB : Hid (Mm w wr.drew [(gt, 3, ivs (tms E F 32))]) := HA.out.drew
        clear HA HPC hx hxp htm hc hq HEl HTL
        go_wp2_with fail
        go_region
        go_wp2
        go_roundw
        case rel => exact ⟨i + 1, by omega, by go_num, HB.out⟩
        case measure => simp [intOf]; omega
    have hr32 : r < 32 := by omega
    obtain ⟨G, hG⟩ : ∃ G, F + r = G := ⟨_, rfl⟩
    have sG : (F : Int) + (r : Int) = (G : Int) := by omega
    have HLG : Hid (Calls Try.prog 12 #[.slice a n c, .slice a2 n c2, .int .i64 (M : Int), .int .i64 (G : Int)] wr fun e u' => ∃ tv, e = .returned (.tuple #[tv, .int .i64 0]) ∧ Iw u' wr.heap.size tv (ldA E G M) ∧ Below wr.heap.size wr u') := HLo.out wr G HA.out.below (by omega)
    have HNG : Hid (bump (tms E F r) (ldA E G M) = tms E F (r + 1)) := by rw [← hG]; exact HNX.out r
    have hLG := HLE.out G
    have HIG : Hid (∀ (k : Nat) (y : Int), (ldA E G M)[k]? = some y → ∃ t, t < n ∧ y = (t : Int)) := fun k y h => HIn.out G k y h
    obtain ⟨l, hl2⟩ : ∃ l, ldA E G M = l := ⟨_, rfl⟩
    rw [hl2] at HLG HNG hLG HIG
    obtain ⟨ll, hll⟩ : ∃ ll, l.length = ll := ⟨_, rfl⟩
    have HLL : Hid (l.length = ll) := hll
    rw [hll] at hLG
    have hM := HA.out
    have HMA : Hid (Mm w wr [(gt, 3, ivs (tms E F r))]) := hM
    clear HA HNX HLE HIn hG hl2 hM hll
    go_wp2_with fail
    refine (HLG.out).mono ?_
    rintro e u3 ⟨tv, rfl, hI, hb⟩
    have HM3 : Hid (Mm w u3 [(gt, 3, ivs (bump (tms E F r) (l.take 0)))]) := HMA.out.call hb
    have hris := hI.ris
    obtain ⟨a3, c3, rfl, hl3, hm3⟩ := hris.form
    have HR3 : Hid (∀ k y, l[k]? = some y → ∃ g off, a3 = some ⟨g, off, none⟩ ∧ (∀ W, Mm w W [(gt, 3, ivs (tms E F r))] → True)) := fun k y h => by
      obtain ⟨g, off, h1, _⟩ := hris.at k y h
      exact ⟨g, off, h1, fun _ _ => trivial⟩
    have HO3 : Hid (Iw u3 wr.heap.size (.slice a3 l.length c3) l ∧ gt < wr.heap.size) := ⟨hI, bx_lt HMA.out.at0⟩
    rw [HLL.out] at hl3 HO3 ⊢
    have HO4 : Hid (∀ k y, l[k]? = some y → ∃ g off, a3 = some ⟨g, off, none⟩ ∧ g ≠ gt ∧ g < u3.heap.size ∧ u3.cell? ⟨g, off + k, none⟩ = some (.int .i64 y)) := fun k y h => by
      have hr' := HO3.out.1.ris
      rw [← HLL.out] at hr'
      obtain ⟨g, off, h1, h2⟩ := hr'.at k y h
      have h3 := own_block HO3.out.1 g (by rw [h1]; rfl)
      have h4 := (World.ownsRow.lt HO3.out.1 g (by rw [h1]; rfl)).2
      exact ⟨g, off, h1, by have := HO3.out.2; omega, h4, h2⟩
    have HSame : Hid (∀ k y, l[k]? = some y → ∃ g off, a3 = some ⟨g, off, none⟩ ∧ u3.cell? ⟨g, off + k, none⟩ = some (.int .i64 y) ∧ g ≠ gt) := fun k y h => by
      obtain ⟨g, off, h1, h2, h3, h4⟩ := HO4.out k y h
      exact ⟨g, off, h1, h4, h2⟩
    unfold maxLen at hm3
    clear hI hb hris HLG HMA HR3 HO3 HO4
    have eg1 : decide ((M : Int) < (ll : Int)) = false := decide_eq_false (by omega)
    have eg2 : ¬ (M : Int) < (ll : Int) := by omega
    have eg4 : ¬ M < ll := by omega
    have eg5 : decide (M < ll) = false := decide_eq_false eg4
    have eg3 : decide ((r : Int) < 32) = true := decide_eq_true (by omega)
    go_wp2
    go_loopw [14, 61] (fun _ kv wr => ∃ k : Nat, k ≤ ll ∧ kv = .int .i64 (k : Int) ∧ Hid (Mm w wr [(gt, 3, ivs (bump (tms E F r) (l.take k)))] ∧ Chg gt u3 wr)) (fun _ kv _ => ll - (intOf kv).toNat)
    case atStart => exact ⟨0, Nat.zero_le _, rfl, HM3.out, Chg.refl _ _⟩
    case round =>
      clear HM3
      obtain ⟨k, hk, rfl, HA⟩ := hrel
      by_cases hkl : ¬ k < ll
      · have HQ : Hid (Mm w wr [(gt, 3, ivs (tms E F (r + 1)))]) := by
          have := HA.out.1
          rw [List.take_of_length_le (by have := HLL.out; omega), HNG.out] at this
          exact this
        clear HA HLo HNG HIG HLL HSame HPC HEl HTL HTB
        go_wp2
        go_roundw
        case rel => exact ⟨r + 1, by omega, by go_num, HQ.out⟩
        case measure => simp [intOf]; omega
      have hkl : k < ll := by omega
      obtain ⟨y, hy⟩ : ∃ y, l[k]? = some y := ⟨l[k]'(by have := HLL.out; omega), List.getElem?_eq_getElem _⟩
      obtain ⟨t, ht, rfl⟩ := HIG.out k y hy
      obtain ⟨g, off, rfl, hcy, hgt⟩ := HSame.out k _ hy
      have hcell : wr.cell? ⟨g, off + k, none⟩ = some (.int .i64 (t : Int)) := by
        have e : wr.cell? ⟨g, off + k, none⟩ = u3.cell? ⟨g, off + k, none⟩ := by unfold World.cell?; rw [HA.out.2.other g hgt]
        rw [e]
        exact hcy
      have htk : l.take (k + 1) = l.take k ++ [(t : Int)] := by rw [List.take_succ_eq_append_getElem (by have := HLL.out; omega), (List.getElem?_eq_some_iff.1 hy).2]
      have HBS : Hid (bump (tms E F r) (l.take (k + 1)) = (bump (tms E F r) (l.take k)).set t ((bump (tms E F r) (l.take k)).getD t 0 + 1)) := by show _ = _; rw [htk, bump_snoc, Int.toNat_natCast]
      have hbnd := HTB.out r t (l.take k) (by omega) ht (fun z hz => by
        obtain ⟨j, hj, e⟩ := List.mem_iff_getElem.1 (List.mem_of_mem_take hz)
        exact HIG.out j z (by rw [← e]; exact List.getElem?_eq_getElem hj)) (by simp; have := HLL.out; omega)
      have hbl : t < (bump (tms E F r) (l.take k)).length := by rw [bump_len, HTL.out]; exact ht
      obtain ⟨A, hA⟩ : ∃ A, bump (tms E F r) (l.take k) = A := ⟨_, rfl⟩
      rw [hA] at HBS hbnd hbl
      have hM := HA.out.1
      rw [hA] at hM
      have hct : wr.cell? ⟨gt, t, none⟩ = some (.int .i64 (A.getD t 0)) := bv_cell hM.at0 (ivs_at (by rw [getD_at hbl]; exact List.getElem?_eq_getElem hbl))
      have hft := bv_free hM.at0 t
      obtain ⟨z, hz⟩ : ∃ z, A.getD t 0 = z := ⟨_, rfl⟩
      rw [hz] at hct HBS hbnd
      obtain ⟨hz1, hz2⟩ := hbnd
      have HQ : Hid (Mm w (wr.setCell ⟨gt, t, none⟩ (.int .i64 (z + 1))) [(gt, 3, ivs (bump (tms E F r) (l.take (k + 1))))] ∧ Chg gt u3 (wr.setCell ⟨gt, t, none⟩ (.int .i64 (z + 1)))) := by
        have hst := set_bv (j := t) (x := .int .i64 (z + 1)) hM.at0
        rw [ivs_set, ← HBS.out] at hst
        exact ⟨hM.put0 hst.2 hst.1, HA.out.2.trans hst.2⟩
      clear HA HLo HNG HIG HLL HSame HPC HEl HTL HTB hcy htk HBS hbl hM hz hy
      go_wp2
      go_roundw
      case rel => exact ⟨k + 1, by omega, by go_num, HQ.out⟩
      case measure => simp [intOf]; omega
set_option maxHeartbeats 8000000 in
theorem walk (v : Value) (P : List Int) (pv : Value) (T : List Bi) (m f : Int) (wm : (Lit.int .i64 m).wf = true) (wf : (Lit.int .i64 f).wf = true) (w : World) (hp : Ris w v P) (hq : Rbs w pv T) :
    Calls Try.prog 8 #[v, pv, .int .i64 m, .int .i64 f] w fun e w' => e = .returned (.bool true) ∧ Below w.heap.size w w' := by
  clear wm wf
  have HC : Hid (∀ u, Below w.heap.size w u → Calls Try.prog 14 #[v, pv, .int .i64 m] u fun e w' => e = .returned (.int .i64 (chkP P T m)) ∧ Below u.heap.size u w') := fun u hb => checkP_any v pv P T m u (hp.below hb) (hq.below hb)
  have HL : Hid (∀ u, Calls Try.prog 17 #[] u fun e w' => e = .returned (.bool true) ∧ Below u.heap.size u w') := lives_any
  by_cases h0 : chkP P T m = 0
  · rw [h0] at HC
    by_cases h1 : f < 0
    · clear hp hq h0
      go_enter Try.func8, Try.ntmps8
      go_wp2_with fail
      refine (HL.out w).mono ?_
      rintro e u ⟨rfl, hb⟩
      have HB : Hid (Below w.heap.size w u) := hb
      clear hb
      go_wp2_with fail
      refine (HC.out u HB.out).mono ?_
      rintro e u2 ⟨rfl, hb⟩
      have HB2 : Hid (Below w.heap.size w u2) := bsq HB.out hb
      clear hb HB HC
      go_wp2_with fail
      refine (HL.out u2).mono ?_
      rintro e u3 ⟨rfl, hb⟩
      have HB3 : Hid (Below w.heap.size w u3) := bsq HB2.out hb
      clear hb HB2 HL
      go_wp2
      go_ret
      exact ⟨rfl, HB3.out⟩
    by_cases h2 : 1099511627776 < f
    · clear hp hq h0
      go_enter Try.func8, Try.ntmps8
      go_wp2_with fail
      refine (HL.out w).mono ?_
      rintro e u ⟨rfl, hb⟩
      have HB : Hid (Below w.heap.size w u) := hb
      clear hb
      go_wp2_with fail
      refine (HC.out u HB.out).mono ?_
      rintro e u2 ⟨rfl, hb⟩
      have HB2 : Hid (Below w.heap.size w u2) := bsq HB.out hb
      clear hb HB HC
      go_wp2_with fail
      refine (HL.out u2).mono ?_
      rintro e u3 ⟨rfl, hb⟩
      have HB3 : Hid (Below w.heap.size w u3) := bsq HB2.out hb
      clear hb HB2 HL
      go_wp2
      go_ret
      exact ⟨rfl, HB3.out⟩
    obtain ⟨F, rfl⟩ := Int.eq_ofNat_of_zero_le (show 0 ≤ f by omega)
    exact main v P pv T m F w hp hq h0 (by omega)
  · obtain ⟨z, hz⟩ : ∃ z, chkP P T m = z := ⟨_, rfl⟩
    rw [hz] at HC h0
    have e0 : (z != 0) = true := by simpa using h0
    clear hp hq hz h0
    go_enter Try.func8, Try.ntmps8
    go_wp2_with fail
    refine (HL.out w).mono ?_
    rintro e u ⟨rfl, hb⟩
    have HB : Hid (Below w.heap.size w u) := hb
    clear hb
    go_wp2_with fail
    refine (HC.out u HB.out).mono ?_
    rintro e u2 ⟨rfl, hb⟩
    have HB2 : Hid (Below w.heap.size w u2) := bsq HB.out hb
    clear hb HB HC
    go_wp2_with fail
    refine (HL.out u2).mono ?_
    rintro e u3 ⟨rfl, hb⟩
    have HB3 : Hid (Below w.heap.size w u3) := bsq HB2.out hb
    clear hb HB2 HL
    go_wp2
    go_ret
    exact ⟨rfl, HB3.out⟩
end Go.Proofs.Ytcenaleladjakaa.budgetEven
