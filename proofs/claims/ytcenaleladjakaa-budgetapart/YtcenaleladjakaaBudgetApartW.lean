/- BudgetApart: a plan that is told is right: no two ever have the same room. -/
import Derived.Test.YtcenaleladjakaaBudU
namespace Go.Proofs.Ytcenaleladjakaa.budgetApart
open Go.RowKit Go.Proofs.Ytcenaleladjakaa.budget
set_option linter.unusedVariables false
set_option linter.unusedSimpArgs false
set_option maxRecDepth 100000

set_option maxHeartbeats 8000000 in
theorem walk (v : Value) (P : List Int) (m : Int) (wm : (Lit.int .i64 m).wf = true) (w : World) (hp : Ris w v P) :
    Calls Try.prog 6 #[v, .int .i64 m] w fun e w' => e = .returned (.bool true) ∧ Below w.heap.size w w' := by
  clear wm
  have HP : Hid (Calls Try.prog 9 #[v, .int .i64 m] w fun e u => ∃ pv, e = .returned (.tuple #[pv, .int .i64 (plC P m)]) ∧ Tld w u pv (plR P m) ∧ Below w.heap.size w u) := plan_any v P m w hp
  have HL : Hid (∀ u, Calls Try.prog 17 #[] u fun e w' => e = .returned (.bool true) ∧ Below u.heap.size u w') := lives_any
  by_cases h0 : plC P m = 0
  · rcases plan_cases P m with ⟨_, hc⟩ | ⟨M, rfl, hM1, hM8, hl, hP, _, hq⟩
    · omega
    rcases hq with ⟨_, hc, _⟩ | ⟨B, hr, hc, hpl, _⟩
    · omega
    rw [hr, hc] at HP
    have hen := plan_ens hP hpl
    have hck := plan_right hP hl hM1 hM8 hpl
    have HC : Hid (∀ u g, Below w.heap.size w u → u.heap[g]? = some (bv 29 (ivs (bfl (toI B)))) → Calls Try.prog 14 #[v, .slice (some ⟨g, 0, none⟩) P.length P.length, .int .i64 (M : Int)] u fun e w' => e = .returned (.int .i64 0) ∧ Below u.heap.size u w') := fun u g hb hg => by
      have := checkP_any v (.slice (some ⟨g, 0, none⟩) (toI B).length (toI B).length) P (toI B) (M : Int) u (hp.below hb) (rbs_of hg (by rw [toI_len, hen.1]; unfold maxLen; omega))
      rw [hck, toI_len, hen.1] at this
      exact this
    obtain ⟨a, c, rfl, hlc, hcm⟩ := hp.form
    have HE : Hid (∀ i, i < P.length → ∃ p ln ph : Nat, 1 ≤ p ∧ p ≤ 32 ∧ ln < 8 ∧ ph < 32 ∧ (ens P B)[i]? = some (p, ln, ph) ∧ (ivs (bfl (toI B)))[i * 2]? = some (.int .i64 (ln : Int)) ∧ (ivs (bfl (toI B)))[i * 2 + 1]? = some (.int .i64 (ph : Int)) ∧ ∃ g off, a = some ⟨g, off, none⟩ ∧ ∀ u, Below w.heap.size w u → u.cell? ⟨g, off + i, none⟩ = some (.int .i64 (p : Int))) := fun i hi => by
      obtain ⟨⟨p, ln, ph⟩, h1⟩ : ∃ x, (ens P B)[i]? = some x := ⟨_, List.getElem?_eq_getElem (by unfold ens sOf; simpa using hi)⟩
      have hv := hen.2.1 _ (List.mem_of_getElem? h1)
      have hpp := okp_le hv.ok
      have h2 := ens_at hi h1 (by rw [hen.1]; exact hi)
      have hb := bfl_at h2.2
      have hph : ph < p := hv.ph
      have hln : ln < M := hv.ln
      refine ⟨p, ln, ph, hpp.1, hpp.2, by omega, by have := hpp.2; omega, h1, ivs_at hb.1, ivs_at hb.2, ?_⟩
      have e1 : P[i]? = some (p : Int) := by
        rw [List.getElem?_eq_getElem hi, ← getD_at hi, (hP.at hi).2, h2.1]
      obtain ⟨g, off, q1, _⟩ := hp.at i _ e1
      refine ⟨g, off, q1, fun u hb => ?_⟩
      obtain ⟨g', off', q2, q3⟩ := (hp.below hb).at i _ e1
      rw [q1] at q2
      injection q2 with q2
      injection q2 with z1 z2 _
      subst z1 z2
      exact q3
    have HX : Hid (∀ (i k : Nat) (x y : En) (f : Nat), k < i → (ens P B)[i]? = some x → (ens P B)[k]? = some y → x.2.1 = y.2.1 → f % x.1 = x.2.2 → ¬ f % y.1 = y.2.2) := fun i k x y f hk hx hy h1 h2 h3 => by
      have hap := List.pairwise_iff_getElem.1 hen.2.2 k i (List.getElem?_eq_some_iff.1 hy).1 (List.getElem?_eq_some_iff.1 hx).1 hk
      rw [(List.getElem?_eq_some_iff.1 hx).2, (List.getElem?_eq_some_iff.1 hy).2] at hap
      have := has_clash (l := x.2.1) (f := f) (hen.2.1 y (List.mem_of_getElem? hy)) (hen.2.1 x (List.mem_of_getElem? hx)) (by simp [has, h1, h3]) (by simp [has, h2])
      rw [this] at hap
      exact absurd hap (by simp)
    have HBL : Hid (B.length = P.length) := hen.1
    obtain ⟨E, hE⟩ : ∃ E, ens P B = E := ⟨_, rfl⟩
    obtain ⟨PB, hPB⟩ : ∃ PB, ivs (bfl (toI B)) = PB := ⟨_, rfl⟩
    rw [hE] at HE HX
    rw [hPB] at HE HC
    have HPB : Hid (ivs (bfl (toI B)) = PB) := hPB
    obtain ⟨n, hn⟩ : ∃ n, P.length = n := ⟨_, rfl⟩
    rw [hn] at HE HP HC HBL hl hlc ⊢
    unfold maxLen at hcm
    clear hp h0 hP hr hc hpl hen hck hE hPB hn
    go_enter Try.func6, Try.ntmps6
    go_wp2_with fail
    refine (HP.out).mono ?_
    rintro e u ⟨pv, rfl, ⟨gp, rfl, h1, h2⟩, hb⟩
    rw [HBL.out, HPB.out] at *
    have HM0 : Hid (Mm w u [(gp, 29, PB)]) := (Mm.nil w).tel hb h2 h1
    clear h1 h2 hb HP HPB
    go_wp2_with fail
    refine (HL.out u).mono ?_
    rintro e u2 ⟨rfl, hb⟩
    have HM : Hid (Mm w u2 [(gp, 29, PB)]) := HM0.out.call hb
    clear hb HM0 HL
    go_wp2
    go_loopw [7, 8, 9, 30] (fun _ _ _ iv wr => ∃ i : Nat, i ≤ n ∧ iv = .int .i64 (i : Int) ∧ Hid (Mm w wr [(gp, 29, PB)])) (fun _ _ _ iv _ => n - (intOf iv).toNat)
    case atStart => exact ⟨0, Nat.zero_le _, rfl, HM.out⟩
    case round =>
      clear HM
      obtain ⟨i, hi, rfl, HA⟩ := hrel
      by_cases hin : ¬ i < n
      · have HC2 : Hid (Calls Try.prog 14 #[.slice a n c, .slice (some ⟨gp, 0, none⟩) n n, .int .i64 (M : Int)] wr fun e w' => e = .returned (.int .i64 0) ∧ Below wr.heap.size wr w') := HC.out wr gp HA.out.below HA.out.at0
        have HB : Hid (Below w.heap.size w wr) := HA.out.below
        clear HA HC HE HX
        go_wp2_with fail
        refine (HC2.out).mono ?_
        rintro e u3 ⟨rfl, hb⟩
        have HB3 : Hid (Below w.heap.size w u3) := bsq HB.out hb
        clear hb HB HC2
        go_wp2
        go_ret
        exact ⟨rfl, HB3.out⟩
      have hin : i < n := by omega
      go_wp2
      go_loopw [8, 9, 34] (fun _ _ kv wr => ∃ k : Nat, k ≤ i ∧ kv = .int .i64 (k : Int) ∧ Hid (Mm w wr [(gp, 29, PB)])) (fun _ _ kv _ => i - (intOf kv).toNat)
      case atStart => exact ⟨0, Nat.zero_le _, rfl, HA.out⟩
      case round =>
        clear HA
        obtain ⟨k, hk, rfl, HA⟩ := hrel
        by_cases hki : ¬ k < i
        · clear HC HE HX
          go_wp2
          go_roundw
          case rel => exact ⟨i + 1, by omega, by go_num, HA.out⟩
          case measure => simp [intOf]; omega
        have hki : k < i := by omega
        have hkn : k < n := by omega
        go_wp2
        go_loopw [9, 37] (fun _ fv wr => ∃ f : Nat, f ≤ 32 ∧ fv = .int .i64 (f : Int) ∧ Hid (Mm w wr [(gp, 29, PB)])) (fun _ fv _ => 32 - (intOf fv).toNat)
        case atStart => exact ⟨0, Nat.zero_le _, rfl, HA.out⟩
        case round =>
          clear HA
          obtain ⟨f, hf, rfl, HA⟩ := hrel
          by_cases hf2 : ¬ f < 32
          · clear HC HE HX
            go_wp2
            go_roundw
            case rel => exact ⟨k + 1, by omega, by go_num, HA.out⟩
            case measure => simp [intOf]; omega
          have hf2 : f < 32 := by omega
          obtain ⟨p, ln, ph, hp1, hp2, hln, hph, hx, r1, r2, g, off, rfl, hc1⟩ := HE.out i hin
          obtain ⟨p', ln', ph', hp1', hp2', hln', hph', hx', r1', r2', g', off', e', hc2⟩ := HE.out k hkn
          injection e' with e'
          injection e' with z1 z2 _
          subst z1 z2
          have HNo : Hid (ln = ln' → f % p = ph → ¬ f % p' = ph') := fun h1 h2 => HX.out i k _ _ f hki hx hx' h1 h2
          have HI : Hid (∀ u, Mm w u [(gp, 29, PB)] → u.cell? ⟨gp, i * 2, none⟩ = some (.int .i64 (ln : Int)) ∧ u.cell? ⟨gp, i * 2 + 1, none⟩ = some (.int .i64 (ph : Int)) ∧ u.cell? ⟨g, off + i, none⟩ = some (.int .i64 (p : Int)) ∧ u.cell? ⟨gp, k * 2, none⟩ = some (.int .i64 (ln' : Int)) ∧ u.cell? ⟨gp, k * 2 + 1, none⟩ = some (.int .i64 (ph' : Int)) ∧ u.cell? ⟨g, off + k, none⟩ = some (.int .i64 (p' : Int))) := fun u hu => ⟨bv_cell hu.at0 r1, bv_cell hu.at0 r2, hc1 u hu.below, bv_cell hu.at0 r1', bv_cell hu.at0 r2', hc2 u hu.below⟩
          have HB : Hid (Mm w wr.drew [(gp, 29, PB)]) := HA.out.drew
          obtain ⟨q, hq⟩ : ∃ q, f % p = q := ⟨_, rfl⟩
          obtain ⟨q', hq'⟩ : ∃ q', f % p' = q' := ⟨_, rfl⟩
          have hqf : q ≤ 32 := by rw [← hq]; exact Nat.le_trans (Nat.mod_le _ _) hf
          have hqf' : q' ≤ 32 := by rw [← hq']; exact Nat.le_trans (Nat.mod_le _ _) hf
          have t1 : ((f : Int)).tmod (p : Int) = (q : Int) := by rw [← hq, Int.tmod_eq_emod_of_nonneg (by omega)]; simp
          have t2 : ((f : Int)).tmod (p' : Int) = (q' : Int) := by rw [← hq', Int.tmod_eq_emod_of_nonneg (by omega)]; simp
          have t3 : IntKind.i64.wrap (q : Int) = (q : Int) := by rw [IntKind.wrap_i64]; omega
          have t4 : IntKind.i64.wrap (q' : Int) = (q' : Int) := by rw [IntKind.wrap_i64]; omega
          have p0 : ((p : Int) == 0) = false := by simp; omega
          have p1 : ¬ (p : Int) = 0 := by omega
          have p2 : ¬ p = 0 := by omega
          have p0' : ((p' : Int) == 0) = false := by simp; omega
          have p1' : ¬ (p' : Int) = 0 := by omega
          have p2' : ¬ p' = 0 := by omega
          rw [hq, hq'] at HNo
          clear HA HC HE HX hx hx' r1 r2 r1' r2' hc1 hc2 hq hq' HBL
          by_cases c1 : ln = ln'
          · have d1 : ((ln : Int) == (ln' : Int)) = true := by simp [c1]
            by_cases c2 : q = ph
            · have d2 : ((q : Int) == (ph : Int)) = true := by simp [c2]
              have c3 : ¬ q' = ph' := HNo.out c1 c2
              have d3 : ((q' : Int) == (ph' : Int)) = false := by simp; omega
              clear c1 c2 c3
              go_upto_region 13 with (fail)
              refine wp_abs (fun a0 => a0.tmps.size = 94 ∧ (∀ h, a0.tmps[0]'h = .slice (some ⟨g, off, none⟩) n c) ∧ (∀ h, a0.tmps[5]'h = .slice (some ⟨gp, 0, none⟩) n n) ∧ (∀ h, a0.tmps[7]'h = .int .i64 (i : Int)) ∧ (∀ h, a0.tmps[8]'h = .int .i64 (k : Int)) ∧ (∀ h, a0.tmps[9]'h = .int .i64 (f : Int))) ⟨rfl, fun _ => rfl, fun _ => rfl, fun _ => rfl, fun _ => rfl, fun _ => rfl⟩ ?_
              rintro a0 ⟨hsz, s0, s5, s7, s8, s9⟩ ha0
              refine wp_region_held (S := fun W => Mm w W [(gp, 29, PB)]) (by kernel_rfl) ?_
              have hS0 : Mm w wr.drew [(gp, 29, PB)] := HB.out
              refine h_take (i := 0) (.slice (some ⟨gp, 0, none⟩) n n) rfl (by kernel_rfl) (by kernel_rfl) (by kernel_rfl) (fun _ _ _ h => h) rfl hS0 (fun W hW => by simp [execOp, go_sem, Act.put, hsz, s0, s5, s7, s8, s9, hin, hkn, t1, t2, t3, t4, p0, p1, p2, p0', p1', p2', d1, d2, d3]) ?_
              refine h_take (i := 1) (.int .i64 (i : Int)) rfl (by kernel_rfl) (by kernel_rfl) (by kernel_rfl) (fun _ _ _ h => h) rfl hS0 (fun W hW => by simp [execOp, go_sem, Act.put, hsz, s0, s5, s7, s8, s9, hin, hkn, t1, t2, t3, t4, p0, p1, p2, p0', p1', p2', d1, d2, d3]) ?_
              refine h_take (i := 2) (.pointer (some ⟨gp, i * 2, none⟩)) rfl (by kernel_rfl) (by kernel_rfl) (by kernel_rfl) (fun _ _ _ h => h) rfl hS0 (fun W hW => by simp [execOp, go_sem, Act.put, hsz, s0, s5, s7, s8, s9, hin, hkn, t1, t2, t3, t4, p0, p1, p2, p0', p1', p2', d1, d2, d3]) ?_
              refine h_take (i := 3) (.pointer (some ⟨gp, i * 2, none⟩)) rfl (by kernel_rfl) (by kernel_rfl) (by kernel_rfl) (fun _ _ _ h => h) rfl hS0 (fun W hW => by simp [execOp, go_sem, Act.put, hsz, s0, s5, s7, s8, s9, hin, hkn, t1, t2, t3, t4, p0, p1, p2, p0', p1', p2', d1, d2, d3]) ?_
              refine h_take (i := 4) (.int .i64 (ln : Int)) rfl (by kernel_rfl) (by kernel_rfl) (by kernel_rfl) (fun _ _ _ h => h) rfl hS0 (fun W hW => ex_getv (p := ⟨gp, i * 2, none⟩) rfl (.inl rfl) (by simp [go_sem, Act.put, hsz, hin, hkn]) (HI.out W hW).1) ?_
              refine h_take (i := 5) (.slice (some ⟨gp, 0, none⟩) n n) rfl (by kernel_rfl) (by kernel_rfl) (by kernel_rfl) (fun _ _ _ h => h) rfl hS0 (fun W hW => by simp [execOp, go_sem, Act.put, hsz, s0, s5, s7, s8, s9, hin, hkn, t1, t2, t3, t4, p0, p1, p2, p0', p1', p2', d1, d2, d3]) ?_
              refine h_take (i := 6) (.int .i64 (k : Int)) rfl (by kernel_rfl) (by kernel_rfl) (by kernel_rfl) (fun _ _ _ h => h) rfl hS0 (fun W hW => by simp [execOp, go_sem, Act.put, hsz, s0, s5, s7, s8, s9, hin, hkn, t1, t2, t3, t4, p0, p1, p2, p0', p1', p2', d1, d2, d3]) ?_
              refine h_take (i := 7) (.pointer (some ⟨gp, k * 2, none⟩)) rfl (by kernel_rfl) (by kernel_rfl) (by kernel_rfl) (fun _ _ _ h => h) rfl hS0 (fun W hW => by simp [execOp, go_sem, Act.put, hsz, s0, s5, s7, s8, s9, hin, hkn, t1, t2, t3, t4, p0, p1, p2, p0', p1', p2', d1, d2, d3]) ?_
              refine h_take (i := 8) (.pointer (some ⟨gp, k * 2, none⟩)) rfl (by kernel_rfl) (by kernel_rfl) (by kernel_rfl) (fun _ _ _ h => h) rfl hS0 (fun W hW => by simp [execOp, go_sem, Act.put, hsz, s0, s5, s7, s8, s9, hin, hkn, t1, t2, t3, t4, p0, p1, p2, p0', p1', p2', d1, d2, d3]) ?_
              refine h_take (i := 9) (.int .i64 (ln' : Int)) rfl (by kernel_rfl) (by kernel_rfl) (by kernel_rfl) (fun _ _ _ h => h) rfl hS0 (fun W hW => ex_getv (p := ⟨gp, k * 2, none⟩) rfl (.inl rfl) (by simp [go_sem, Act.put, hsz, hin, hkn]) (HI.out W hW).2.2.2.1) ?_
              refine h_take (i := 10) (.bool true) rfl (by kernel_rfl) (by kernel_rfl) (by kernel_rfl) (fun _ _ _ h => h) rfl hS0 (fun W hW => by simp [execOp, go_sem, Act.put, hsz, s0, s5, s7, s8, s9, hin, hkn, t1, t2, t3, t4, p0, p1, p2, p0', p1', p2', d1, d2, d3]) ?_
              refine h_take (i := 11) (.bool true) rfl (by kernel_rfl) (by kernel_rfl) (by kernel_rfl) (fun _ _ _ h => h) rfl hS0 (fun W hW => by simp [execOp, go_sem, Act.put, hsz, s0, s5, s7, s8, s9, hin, hkn, t1, t2, t3, t4, p0, p1, p2, p0', p1', p2', d1, d2, d3]) ?_
              refine g_take (i := 12) (.int .i64 (f : Int)) rfl (by kernel_rfl) (by kernel_rfl) (by kernel_rfl) (fun _ _ _ h => h) (by simp [Region.wanted, yielded, Act.put, hsz]) hS0 (fun W hW => by simp [execOp, go_sem, Act.put, hsz, s0, s5, s7, s8, s9, hin, hkn, t1, t2, t3, t4, p0, p1, p2, p0', p1', p2', d1, d2, d3]) ?_
              refine g_take (i := 13) (.slice (some ⟨g, off, none⟩) n c) rfl (by kernel_rfl) (by kernel_rfl) (by kernel_rfl) (fun _ _ _ h => h) (by simp [Region.wanted, yielded, Act.put, hsz]) hS0 (fun W hW => by simp [execOp, go_sem, Act.put, hsz, s0, s5, s7, s8, s9, hin, hkn, t1, t2, t3, t4, p0, p1, p2, p0', p1', p2', d1, d2, d3]) ?_
              refine g_take (i := 14) (.int .i64 (i : Int)) rfl (by kernel_rfl) (by kernel_rfl) (by kernel_rfl) (fun _ _ _ h => h) (by simp [Region.wanted, yielded, Act.put, hsz]) hS0 (fun W hW => by simp [execOp, go_sem, Act.put, hsz, s0, s5, s7, s8, s9, hin, hkn, t1, t2, t3, t4, p0, p1, p2, p0', p1', p2', d1, d2, d3]) ?_
              refine g_take (i := 15) (.pointer (some ⟨g, off + i, none⟩)) rfl (by kernel_rfl) (by kernel_rfl) (by kernel_rfl) (fun _ _ _ h => h) (by simp [Region.wanted, yielded, Act.put, hsz]) hS0 (fun W hW => by simp [execOp, go_sem, Act.put, hsz, s0, s5, s7, s8, s9, hin, hkn, t1, t2, t3, t4, p0, p1, p2, p0', p1', p2', d1, d2, d3]) ?_
              refine g_take (i := 16) (.int .i64 (p : Int)) rfl (by kernel_rfl) (by kernel_rfl) (by kernel_rfl) (fun _ _ _ h => h) (by simp [Region.wanted, yielded, Act.put, hsz]) hS0 (fun W hW => ex_getv (p := ⟨g, off + i, none⟩) rfl (.inl rfl) (by simp [go_sem, Act.put, hsz, hin, hkn]) (HI.out W hW).2.2.1) ?_
              refine g_take (i := 17) (.int .i64 (q : Int)) rfl (by kernel_rfl) (by kernel_rfl) (by kernel_rfl) (fun _ _ _ h => h) (by simp [Region.wanted, yielded, Act.put, hsz]) hS0 (fun W hW => by simp [execOp, go_sem, Act.put, hsz, s0, s5, s7, s8, s9, hin, hkn, t1, t2, t3, t4, p0, p1, p2, p0', p1', p2', d1, d2, d3]) ?_
              refine g_take (i := 18) (.slice (some ⟨gp, 0, none⟩) n n) rfl (by kernel_rfl) (by kernel_rfl) (by kernel_rfl) (fun _ _ _ h => h) (by simp [Region.wanted, yielded, Act.put, hsz]) hS0 (fun W hW => by simp [execOp, go_sem, Act.put, hsz, s0, s5, s7, s8, s9, hin, hkn, t1, t2, t3, t4, p0, p1, p2, p0', p1', p2', d1, d2, d3]) ?_
              refine g_take (i := 19) (.int .i64 (i : Int)) rfl (by kernel_rfl) (by kernel_rfl) (by kernel_rfl) (fun _ _ _ h => h) (by simp [Region.wanted, yielded, Act.put, hsz]) hS0 (fun W hW => by simp [execOp, go_sem, Act.put, hsz, s0, s5, s7, s8, s9, hin, hkn, t1, t2, t3, t4, p0, p1, p2, p0', p1', p2', d1, d2, d3]) ?_
              refine g_take (i := 20) (.pointer (some ⟨gp, i * 2, none⟩)) rfl (by kernel_rfl) (by kernel_rfl) (by kernel_rfl) (fun _ _ _ h => h) (by simp [Region.wanted, yielded, Act.put, hsz]) hS0 (fun W hW => by simp [execOp, go_sem, Act.put, hsz, s0, s5, s7, s8, s9, hin, hkn, t1, t2, t3, t4, p0, p1, p2, p0', p1', p2', d1, d2, d3]) ?_
              refine g_take (i := 21) (.pointer (some ⟨gp, i * 2 + 1, none⟩)) rfl (by kernel_rfl) (by kernel_rfl) (by kernel_rfl) (fun _ _ _ h => h) (by simp [Region.wanted, yielded, Act.put, hsz]) hS0 (fun W hW => by simp [execOp, go_sem, Act.put, hsz, s0, s5, s7, s8, s9, hin, hkn, t1, t2, t3, t4, p0, p1, p2, p0', p1', p2', d1, d2, d3]) ?_
              refine g_take (i := 22) (.int .i64 (ph : Int)) rfl (by kernel_rfl) (by kernel_rfl) (by kernel_rfl) (fun _ _ _ h => h) (by simp [Region.wanted, yielded, Act.put, hsz]) hS0 (fun W hW => ex_getv (p := ⟨gp, i * 2 + 1, none⟩) rfl (.inl rfl) (by simp [go_sem, Act.put, hsz, hin, hkn]) (HI.out W hW).2.1) ?_
              refine g_take (i := 23) (.bool true) rfl (by kernel_rfl) (by kernel_rfl) (by kernel_rfl) (fun _ _ _ h => h) (by simp [Region.wanted, yielded, Act.put, hsz]) hS0 (fun W hW => by simp [execOp, go_sem, Act.put, hsz, s0, s5, s7, s8, s9, hin, hkn, t1, t2, t3, t4, p0, p1, p2, p0', p1', p2', d1, d2, d3]) ?_
              refine h_take (i := 24) (.bool true) rfl (by kernel_rfl) (by kernel_rfl) (by kernel_rfl) (fun _ _ _ h => h) rfl hS0 (fun W hW => by simp [execOp, go_sem, Act.put, hsz, s0, s5, s7, s8, s9, hin, hkn, t1, t2, t3, t4, p0, p1, p2, p0', p1', p2', d1, d2, d3]) ?_
              refine h_take (i := 25) (.bool true) rfl (by kernel_rfl) (by kernel_rfl) (by kernel_rfl) (fun _ _ _ h => h) rfl hS0 (fun W hW => by simp [execOp, go_sem, Act.put, hsz, s0, s5, s7, s8, s9, hin, hkn, t1, t2, t3, t4, p0, p1, p2, p0', p1', p2', d1, d2, d3]) ?_
              refine g_take (i := 26) (.int .i64 (f : Int)) rfl (by kernel_rfl) (by kernel_rfl) (by kernel_rfl) (fun _ _ _ h => h) (by simp [Region.wanted, yielded, Act.put, hsz]) hS0 (fun W hW => by simp [execOp, go_sem, Act.put, hsz, s0, s5, s7, s8, s9, hin, hkn, t1, t2, t3, t4, p0, p1, p2, p0', p1', p2', d1, d2, d3]) ?_
              refine g_take (i := 27) (.slice (some ⟨g, off, none⟩) n c) rfl (by kernel_rfl) (by kernel_rfl) (by kernel_rfl) (fun _ _ _ h => h) (by simp [Region.wanted, yielded, Act.put, hsz]) hS0 (fun W hW => by simp [execOp, go_sem, Act.put, hsz, s0, s5, s7, s8, s9, hin, hkn, t1, t2, t3, t4, p0, p1, p2, p0', p1', p2', d1, d2, d3]) ?_
              refine g_take (i := 28) (.int .i64 (k : Int)) rfl (by kernel_rfl) (by kernel_rfl) (by kernel_rfl) (fun _ _ _ h => h) (by simp [Region.wanted, yielded, Act.put, hsz]) hS0 (fun W hW => by simp [execOp, go_sem, Act.put, hsz, s0, s5, s7, s8, s9, hin, hkn, t1, t2, t3, t4, p0, p1, p2, p0', p1', p2', d1, d2, d3]) ?_
              refine g_take (i := 29) (.pointer (some ⟨g, off + k, none⟩)) rfl (by kernel_rfl) (by kernel_rfl) (by kernel_rfl) (fun _ _ _ h => h) (by simp [Region.wanted, yielded, Act.put, hsz]) hS0 (fun W hW => by simp [execOp, go_sem, Act.put, hsz, s0, s5, s7, s8, s9, hin, hkn, t1, t2, t3, t4, p0, p1, p2, p0', p1', p2', d1, d2, d3]) ?_
              refine g_take (i := 30) (.int .i64 (p' : Int)) rfl (by kernel_rfl) (by kernel_rfl) (by kernel_rfl) (fun _ _ _ h => h) (by simp [Region.wanted, yielded, Act.put, hsz]) hS0 (fun W hW => ex_getv (p := ⟨g, off + k, none⟩) rfl (.inl rfl) (by simp [go_sem, Act.put, hsz, hin, hkn]) (HI.out W hW).2.2.2.2.2) ?_
              refine g_take (i := 31) (.int .i64 (q' : Int)) rfl (by kernel_rfl) (by kernel_rfl) (by kernel_rfl) (fun _ _ _ h => h) (by simp [Region.wanted, yielded, Act.put, hsz]) hS0 (fun W hW => by simp [execOp, go_sem, Act.put, hsz, s0, s5, s7, s8, s9, hin, hkn, t1, t2, t3, t4, p0, p1, p2, p0', p1', p2', d1, d2, d3]) ?_
              refine g_take (i := 32) (.slice (some ⟨gp, 0, none⟩) n n) rfl (by kernel_rfl) (by kernel_rfl) (by kernel_rfl) (fun _ _ _ h => h) (by simp [Region.wanted, yielded, Act.put, hsz]) hS0 (fun W hW => by simp [execOp, go_sem, Act.put, hsz, s0, s5, s7, s8, s9, hin, hkn, t1, t2, t3, t4, p0, p1, p2, p0', p1', p2', d1, d2, d3]) ?_
              refine g_take (i := 33) (.int .i64 (k : Int)) rfl (by kernel_rfl) (by kernel_rfl) (by kernel_rfl) (fun _ _ _ h => h) (by simp [Region.wanted, yielded, Act.put, hsz]) hS0 (fun W hW => by simp [execOp, go_sem, Act.put, hsz, s0, s5, s7, s8, s9, hin, hkn, t1, t2, t3, t4, p0, p1, p2, p0', p1', p2', d1, d2, d3]) ?_
              refine g_take (i := 34) (.pointer (some ⟨gp, k * 2, none⟩)) rfl (by kernel_rfl) (by kernel_rfl) (by kernel_rfl) (fun _ _ _ h => h) (by simp [Region.wanted, yielded, Act.put, hsz]) hS0 (fun W hW => by simp [execOp, go_sem, Act.put, hsz, s0, s5, s7, s8, s9, hin, hkn, t1, t2, t3, t4, p0, p1, p2, p0', p1', p2', d1, d2, d3]) ?_
              refine g_take (i := 35) (.pointer (some ⟨gp, k * 2 + 1, none⟩)) rfl (by kernel_rfl) (by kernel_rfl) (by kernel_rfl) (fun _ _ _ h => h) (by simp [Region.wanted, yielded, Act.put, hsz]) hS0 (fun W hW => by simp [execOp, go_sem, Act.put, hsz, s0, s5, s7, s8, s9, hin, hkn, t1, t2, t3, t4, p0, p1, p2, p0', p1', p2', d1, d2, d3]) ?_
              refine g_take (i := 36) (.int .i64 (ph' : Int)) rfl (by kernel_rfl) (by kernel_rfl) (by kernel_rfl) (fun _ _ _ h => h) (by simp [Region.wanted, yielded, Act.put, hsz]) hS0 (fun W hW => ex_getv (p := ⟨gp, k * 2 + 1, none⟩) rfl (.inl rfl) (by simp [go_sem, Act.put, hsz, hin, hkn]) (HI.out W hW).2.2.2.2.1) ?_
              refine g_take (i := 37) (.bool false) rfl (by kernel_rfl) (by kernel_rfl) (by kernel_rfl) (fun _ _ _ h => h) (by simp [Region.wanted, yielded, Act.put, hsz]) hS0 (fun W hW => by simp [execOp, go_sem, Act.put, hsz, s0, s5, s7, s8, s9, hin, hkn, t1, t2, t3, t4, p0, p1, p2, p0', p1', p2', d1, d2, d3]) ?_
              refine h_take (i := 38) (.bool false) rfl (by kernel_rfl) (by kernel_rfl) (by kernel_rfl) (fun _ _ _ h => h) rfl hS0 (fun W hW => by simp [execOp, go_sem, Act.put, hsz, s0, s5, s7, s8, s9, hin, hkn, t1, t2, t3, t4, p0, p1, p2, p0', p1', p2', d1, d2, d3]) ?_
              refine wpAnyH_done (by kernel_rfl) ?_ _
              subst ha0
              clear hsz s0 s5 s7 s8 s9 hS0 HI HNo
              go_simp
              go_wp2
              go_roundw
              case rel => exact ⟨f + 1, by omega, by go_num, HB.out⟩
              case measure => simp [intOf]; omega
            · have d2 : ((q : Int) == (ph : Int)) = false := by simp; omega
              clear c1 c2
              go_upto_region 13 with (fail)
              refine wp_abs (fun a0 => a0.tmps.size = 94 ∧ (∀ h, a0.tmps[0]'h = .slice (some ⟨g, off, none⟩) n c) ∧ (∀ h, a0.tmps[5]'h = .slice (some ⟨gp, 0, none⟩) n n) ∧ (∀ h, a0.tmps[7]'h = .int .i64 (i : Int)) ∧ (∀ h, a0.tmps[8]'h = .int .i64 (k : Int)) ∧ (∀ h, a0.tmps[9]'h = .int .i64 (f : Int))) ⟨rfl, fun _ => rfl, fun _ => rfl, fun _ => rfl, fun _ => rfl, fun _ => rfl⟩ ?_
              rintro a0 ⟨hsz, s0, s5, s7, s8, s9⟩ ha0
              refine wp_region_held (S := fun W => Mm w W [(gp, 29, PB)]) (by kernel_rfl) ?_
              have hS0 : Mm w wr.drew [(gp, 29, PB)] := HB.out
              refine h_take (i := 0) (.slice (some ⟨gp, 0, none⟩) n n) rfl (by kernel_rfl) (by kernel_rfl) (by kernel_rfl) (fun _ _ _ h => h) rfl hS0 (fun W hW => by simp [execOp, go_sem, Act.put, hsz, s0, s5, s7, s8, s9, hin, hkn, t1, t2, t3, t4, p0, p1, p2, p0', p1', p2', d1, d2]) ?_
              refine h_take (i := 1) (.int .i64 (i : Int)) rfl (by kernel_rfl) (by kernel_rfl) (by kernel_rfl) (fun _ _ _ h => h) rfl hS0 (fun W hW => by simp [execOp, go_sem, Act.put, hsz, s0, s5, s7, s8, s9, hin, hkn, t1, t2, t3, t4, p0, p1, p2, p0', p1', p2', d1, d2]) ?_
              refine h_take (i := 2) (.pointer (some ⟨gp, i * 2, none⟩)) rfl (by kernel_rfl) (by kernel_rfl) (by kernel_rfl) (fun _ _ _ h => h) rfl hS0 (fun W hW => by simp [execOp, go_sem, Act.put, hsz, s0, s5, s7, s8, s9, hin, hkn, t1, t2, t3, t4, p0, p1, p2, p0', p1', p2', d1, d2]) ?_
              refine h_take (i := 3) (.pointer (some ⟨gp, i * 2, none⟩)) rfl (by kernel_rfl) (by kernel_rfl) (by kernel_rfl) (fun _ _ _ h => h) rfl hS0 (fun W hW => by simp [execOp, go_sem, Act.put, hsz, s0, s5, s7, s8, s9, hin, hkn, t1, t2, t3, t4, p0, p1, p2, p0', p1', p2', d1, d2]) ?_
              refine h_take (i := 4) (.int .i64 (ln : Int)) rfl (by kernel_rfl) (by kernel_rfl) (by kernel_rfl) (fun _ _ _ h => h) rfl hS0 (fun W hW => ex_getv (p := ⟨gp, i * 2, none⟩) rfl (.inl rfl) (by simp [go_sem, Act.put, hsz, hin, hkn]) (HI.out W hW).1) ?_
              refine h_take (i := 5) (.slice (some ⟨gp, 0, none⟩) n n) rfl (by kernel_rfl) (by kernel_rfl) (by kernel_rfl) (fun _ _ _ h => h) rfl hS0 (fun W hW => by simp [execOp, go_sem, Act.put, hsz, s0, s5, s7, s8, s9, hin, hkn, t1, t2, t3, t4, p0, p1, p2, p0', p1', p2', d1, d2]) ?_
              refine h_take (i := 6) (.int .i64 (k : Int)) rfl (by kernel_rfl) (by kernel_rfl) (by kernel_rfl) (fun _ _ _ h => h) rfl hS0 (fun W hW => by simp [execOp, go_sem, Act.put, hsz, s0, s5, s7, s8, s9, hin, hkn, t1, t2, t3, t4, p0, p1, p2, p0', p1', p2', d1, d2]) ?_
              refine h_take (i := 7) (.pointer (some ⟨gp, k * 2, none⟩)) rfl (by kernel_rfl) (by kernel_rfl) (by kernel_rfl) (fun _ _ _ h => h) rfl hS0 (fun W hW => by simp [execOp, go_sem, Act.put, hsz, s0, s5, s7, s8, s9, hin, hkn, t1, t2, t3, t4, p0, p1, p2, p0', p1', p2', d1, d2]) ?_
              refine h_take (i := 8) (.pointer (some ⟨gp, k * 2, none⟩)) rfl (by kernel_rfl) (by kernel_rfl) (by kernel_rfl) (fun _ _ _ h => h) rfl hS0 (fun W hW => by simp [execOp, go_sem, Act.put, hsz, s0, s5, s7, s8, s9, hin, hkn, t1, t2, t3, t4, p0, p1, p2, p0', p1', p2', d1, d2]) ?_
              refine h_take (i := 9) (.int .i64 (ln' : Int)) rfl (by kernel_rfl) (by kernel_rfl) (by kernel_rfl) (fun _ _ _ h => h) rfl hS0 (fun W hW => ex_getv (p := ⟨gp, k * 2, none⟩) rfl (.inl rfl) (by simp [go_sem, Act.put, hsz, hin, hkn]) (HI.out W hW).2.2.2.1) ?_
              refine h_take (i := 10) (.bool true) rfl (by kernel_rfl) (by kernel_rfl) (by kernel_rfl) (fun _ _ _ h => h) rfl hS0 (fun W hW => by simp [execOp, go_sem, Act.put, hsz, s0, s5, s7, s8, s9, hin, hkn, t1, t2, t3, t4, p0, p1, p2, p0', p1', p2', d1, d2]) ?_
              refine h_take (i := 11) (.bool true) rfl (by kernel_rfl) (by kernel_rfl) (by kernel_rfl) (fun _ _ _ h => h) rfl hS0 (fun W hW => by simp [execOp, go_sem, Act.put, hsz, s0, s5, s7, s8, s9, hin, hkn, t1, t2, t3, t4, p0, p1, p2, p0', p1', p2', d1, d2]) ?_
              refine g_take (i := 12) (.int .i64 (f : Int)) rfl (by kernel_rfl) (by kernel_rfl) (by kernel_rfl) (fun _ _ _ h => h) (by simp [Region.wanted, yielded, Act.put, hsz]) hS0 (fun W hW => by simp [execOp, go_sem, Act.put, hsz, s0, s5, s7, s8, s9, hin, hkn, t1, t2, t3, t4, p0, p1, p2, p0', p1', p2', d1, d2]) ?_
              refine g_take (i := 13) (.slice (some ⟨g, off, none⟩) n c) rfl (by kernel_rfl) (by kernel_rfl) (by kernel_rfl) (fun _ _ _ h => h) (by simp [Region.wanted, yielded, Act.put, hsz]) hS0 (fun W hW => by simp [execOp, go_sem, Act.put, hsz, s0, s5, s7, s8, s9, hin, hkn, t1, t2, t3, t4, p0, p1, p2, p0', p1', p2', d1, d2]) ?_
              refine g_take (i := 14) (.int .i64 (i : Int)) rfl (by kernel_rfl) (by kernel_rfl) (by kernel_rfl) (fun _ _ _ h => h) (by simp [Region.wanted, yielded, Act.put, hsz]) hS0 (fun W hW => by simp [execOp, go_sem, Act.put, hsz, s0, s5, s7, s8, s9, hin, hkn, t1, t2, t3, t4, p0, p1, p2, p0', p1', p2', d1, d2]) ?_
              refine g_take (i := 15) (.pointer (some ⟨g, off + i, none⟩)) rfl (by kernel_rfl) (by kernel_rfl) (by kernel_rfl) (fun _ _ _ h => h) (by simp [Region.wanted, yielded, Act.put, hsz]) hS0 (fun W hW => by simp [execOp, go_sem, Act.put, hsz, s0, s5, s7, s8, s9, hin, hkn, t1, t2, t3, t4, p0, p1, p2, p0', p1', p2', d1, d2]) ?_
              refine g_take (i := 16) (.int .i64 (p : Int)) rfl (by kernel_rfl) (by kernel_rfl) (by kernel_rfl) (fun _ _ _ h => h) (by simp [Region.wanted, yielded, Act.put, hsz]) hS0 (fun W hW => ex_getv (p := ⟨g, off + i, none⟩) rfl (.inl rfl) (by simp [go_sem, Act.put, hsz, hin, hkn]) (HI.out W hW).2.2.1) ?_
              refine g_take (i := 17) (.int .i64 (q : Int)) rfl (by kernel_rfl) (by kernel_rfl) (by kernel_rfl) (fun _ _ _ h => h) (by simp [Region.wanted, yielded, Act.put, hsz]) hS0 (fun W hW => by simp [execOp, go_sem, Act.put, hsz, s0, s5, s7, s8, s9, hin, hkn, t1, t2, t3, t4, p0, p1, p2, p0', p1', p2', d1, d2]) ?_
              refine g_take (i := 18) (.slice (some ⟨gp, 0, none⟩) n n) rfl (by kernel_rfl) (by kernel_rfl) (by kernel_rfl) (fun _ _ _ h => h) (by simp [Region.wanted, yielded, Act.put, hsz]) hS0 (fun W hW => by simp [execOp, go_sem, Act.put, hsz, s0, s5, s7, s8, s9, hin, hkn, t1, t2, t3, t4, p0, p1, p2, p0', p1', p2', d1, d2]) ?_
              refine g_take (i := 19) (.int .i64 (i : Int)) rfl (by kernel_rfl) (by kernel_rfl) (by kernel_rfl) (fun _ _ _ h => h) (by simp [Region.wanted, yielded, Act.put, hsz]) hS0 (fun W hW => by simp [execOp, go_sem, Act.put, hsz, s0, s5, s7, s8, s9, hin, hkn, t1, t2, t3, t4, p0, p1, p2, p0', p1', p2', d1, d2]) ?_
              refine g_take (i := 20) (.pointer (some ⟨gp, i * 2, none⟩)) rfl (by kernel_rfl) (by kernel_rfl) (by kernel_rfl) (fun _ _ _ h => h) (by simp [Region.wanted, yielded, Act.put, hsz]) hS0 (fun W hW => by simp [execOp, go_sem, Act.put, hsz, s0, s5, s7, s8, s9, hin, hkn, t1, t2, t3, t4, p0, p1, p2, p0', p1', p2', d1, d2]) ?_
              refine g_take (i := 21) (.pointer (some ⟨gp, i * 2 + 1, none⟩)) rfl (by kernel_rfl) (by kernel_rfl) (by kernel_rfl) (fun _ _ _ h => h) (by simp [Region.wanted, yielded, Act.put, hsz]) hS0 (fun W hW => by simp [execOp, go_sem, Act.put, hsz, s0, s5, s7, s8, s9, hin, hkn, t1, t2, t3, t4, p0, p1, p2, p0', p1', p2', d1, d2]) ?_
              refine g_take (i := 22) (.int .i64 (ph : Int)) rfl (by kernel_rfl) (by kernel_rfl) (by kernel_rfl) (fun _ _ _ h => h) (by simp [Region.wanted, yielded, Act.put, hsz]) hS0 (fun W hW => ex_getv (p := ⟨gp, i * 2 + 1, none⟩) rfl (.inl rfl) (by simp [go_sem, Act.put, hsz, hin, hkn]) (HI.out W hW).2.1) ?_
              refine g_take (i := 23) (.bool false) rfl (by kernel_rfl) (by kernel_rfl) (by kernel_rfl) (fun _ _ _ h => h) (by simp [Region.wanted, yielded, Act.put, hsz]) hS0 (fun W hW => by simp [execOp, go_sem, Act.put, hsz, s0, s5, s7, s8, s9, hin, hkn, t1, t2, t3, t4, p0, p1, p2, p0', p1', p2', d1, d2]) ?_
              refine h_take (i := 24) (.bool false) rfl (by kernel_rfl) (by kernel_rfl) (by kernel_rfl) (fun _ _ _ h => h) rfl hS0 (fun W hW => by simp [execOp, go_sem, Act.put, hsz, s0, s5, s7, s8, s9, hin, hkn, t1, t2, t3, t4, p0, p1, p2, p0', p1', p2', d1, d2]) ?_
              refine h_take (i := 25) (.bool false) rfl (by kernel_rfl) (by kernel_rfl) (by kernel_rfl) (fun _ _ _ h => h) rfl hS0 (fun W hW => by simp [execOp, go_sem, Act.put, hsz, s0, s5, s7, s8, s9, hin, hkn, t1, t2, t3, t4, p0, p1, p2, p0', p1', p2', d1, d2]) ?_
              refine g_pass (i := 26) rfl (by kernel_rfl) (by kernel_rfl) (by kernel_rfl) (fun _ _ _ h => h) (by simp [Region.wanted, yielded, Act.put, hsz]) hS0 ?_
              refine g_pass (i := 27) rfl (by kernel_rfl) (by kernel_rfl) (by kernel_rfl) (fun _ _ _ h => h) (by simp [Region.wanted, yielded, Act.put, hsz]) hS0 ?_
              refine g_pass (i := 28) rfl (by kernel_rfl) (by kernel_rfl) (by kernel_rfl) (fun _ _ _ h => h) (by simp [Region.wanted, yielded, Act.put, hsz]) hS0 ?_
              refine g_pass (i := 29) rfl (by kernel_rfl) (by kernel_rfl) (by kernel_rfl) (fun _ _ _ h => h) (by simp [Region.wanted, yielded, Act.put, hsz]) hS0 ?_
              refine g_pass (i := 30) rfl (by kernel_rfl) (by kernel_rfl) (by kernel_rfl) (fun _ _ _ h => h) (by simp [Region.wanted, yielded, Act.put, hsz]) hS0 ?_
              refine g_pass (i := 31) rfl (by kernel_rfl) (by kernel_rfl) (by kernel_rfl) (fun _ _ _ h => h) (by simp [Region.wanted, yielded, Act.put, hsz]) hS0 ?_
              refine g_pass (i := 32) rfl (by kernel_rfl) (by kernel_rfl) (by kernel_rfl) (fun _ _ _ h => h) (by simp [Region.wanted, yielded, Act.put, hsz]) hS0 ?_
              refine g_pass (i := 33) rfl (by kernel_rfl) (by kernel_rfl) (by kernel_rfl) (fun _ _ _ h => h) (by simp [Region.wanted, yielded, Act.put, hsz]) hS0 ?_
              refine g_pass (i := 34) rfl (by kernel_rfl) (by kernel_rfl) (by kernel_rfl) (fun _ _ _ h => h) (by simp [Region.wanted, yielded, Act.put, hsz]) hS0 ?_
              refine g_pass (i := 35) rfl (by kernel_rfl) (by kernel_rfl) (by kernel_rfl) (fun _ _ _ h => h) (by simp [Region.wanted, yielded, Act.put, hsz]) hS0 ?_
              refine g_pass (i := 36) rfl (by kernel_rfl) (by kernel_rfl) (by kernel_rfl) (fun _ _ _ h => h) (by simp [Region.wanted, yielded, Act.put, hsz]) hS0 ?_
              refine g_pass (i := 37) rfl (by kernel_rfl) (by kernel_rfl) (by kernel_rfl) (fun _ _ _ h => h) (by simp [Region.wanted, yielded, Act.put, hsz]) hS0 ?_
              refine h_take (i := 38) (.bool false) rfl (by kernel_rfl) (by kernel_rfl) (by kernel_rfl) (fun _ _ _ h => h) rfl hS0 (fun W hW => by simp [execOp, go_sem, Act.put, hsz, s0, s5, s7, s8, s9, hin, hkn, t1, t2, t3, t4, p0, p1, p2, p0', p1', p2', d1, d2]) ?_
              refine wpAnyH_done (by kernel_rfl) ?_ _
              subst ha0
              clear hsz s0 s5 s7 s8 s9 hS0 HI HNo
              go_simp
              go_wp2
              go_roundw
              case rel => exact ⟨f + 1, by omega, by go_num, HB.out⟩
              case measure => simp [intOf]; omega
          · have d1 : ((ln : Int) == (ln' : Int)) = false := by simp; omega
            clear c1
            go_upto_region 13 with (fail)
            refine wp_abs (fun a0 => a0.tmps.size = 94 ∧ (∀ h, a0.tmps[0]'h = .slice (some ⟨g, off, none⟩) n c) ∧ (∀ h, a0.tmps[5]'h = .slice (some ⟨gp, 0, none⟩) n n) ∧ (∀ h, a0.tmps[7]'h = .int .i64 (i : Int)) ∧ (∀ h, a0.tmps[8]'h = .int .i64 (k : Int)) ∧ (∀ h, a0.tmps[9]'h = .int .i64 (f : Int))) ⟨rfl, fun _ => rfl, fun _ => rfl, fun _ => rfl, fun _ => rfl, fun _ => rfl⟩ ?_
            rintro a0 ⟨hsz, s0, s5, s7, s8, s9⟩ ha0
            refine wp_region_held (S := fun W => Mm w W [(gp, 29, PB)]) (by kernel_rfl) ?_
            have hS0 : Mm w wr.drew [(gp, 29, PB)] := HB.out
            refine h_take (i := 0) (.slice (some ⟨gp, 0, none⟩) n n) rfl (by kernel_rfl) (by kernel_rfl) (by kernel_rfl) (fun _ _ _ h => h) rfl hS0 (fun W hW => by simp [execOp, go_sem, Act.put, hsz, s0, s5, s7, s8, s9, hin, hkn, t1, t2, t3, t4, p0, p1, p2, p0', p1', p2', d1]) ?_
            refine h_take (i := 1) (.int .i64 (i : Int)) rfl (by kernel_rfl) (by kernel_rfl) (by kernel_rfl) (fun _ _ _ h => h) rfl hS0 (fun W hW => by simp [execOp, go_sem, Act.put, hsz, s0, s5, s7, s8, s9, hin, hkn, t1, t2, t3, t4, p0, p1, p2, p0', p1', p2', d1]) ?_
            refine h_take (i := 2) (.pointer (some ⟨gp, i * 2, none⟩)) rfl (by kernel_rfl) (by kernel_rfl) (by kernel_rfl) (fun _ _ _ h => h) rfl hS0 (fun W hW => by simp [execOp, go_sem, Act.put, hsz, s0, s5, s7, s8, s9, hin, hkn, t1, t2, t3, t4, p0, p1, p2, p0', p1', p2', d1]) ?_
            refine h_take (i := 3) (.pointer (some ⟨gp, i * 2, none⟩)) rfl (by kernel_rfl) (by kernel_rfl) (by kernel_rfl) (fun _ _ _ h => h) rfl hS0 (fun W hW => by simp [execOp, go_sem, Act.put, hsz, s0, s5, s7, s8, s9, hin, hkn, t1, t2, t3, t4, p0, p1, p2, p0', p1', p2', d1]) ?_
            refine h_take (i := 4) (.int .i64 (ln : Int)) rfl (by kernel_rfl) (by kernel_rfl) (by kernel_rfl) (fun _ _ _ h => h) rfl hS0 (fun W hW => ex_getv (p := ⟨gp, i * 2, none⟩) rfl (.inl rfl) (by simp [go_sem, Act.put, hsz, hin, hkn]) (HI.out W hW).1) ?_
            refine h_take (i := 5) (.slice (some ⟨gp, 0, none⟩) n n) rfl (by kernel_rfl) (by kernel_rfl) (by kernel_rfl) (fun _ _ _ h => h) rfl hS0 (fun W hW => by simp [execOp, go_sem, Act.put, hsz, s0, s5, s7, s8, s9, hin, hkn, t1, t2, t3, t4, p0, p1, p2, p0', p1', p2', d1]) ?_
            refine h_take (i := 6) (.int .i64 (k : Int)) rfl (by kernel_rfl) (by kernel_rfl) (by kernel_rfl) (fun _ _ _ h => h) rfl hS0 (fun W hW => by simp [execOp, go_sem, Act.put, hsz, s0, s5, s7, s8, s9, hin, hkn, t1, t2, t3, t4, p0, p1, p2, p0', p1', p2', d1]) ?_
            refine h_take (i := 7) (.pointer (some ⟨gp, k * 2, none⟩)) rfl (by kernel_rfl) (by kernel_rfl) (by kernel_rfl) (fun _ _ _ h => h) rfl hS0 (fun W hW => by simp [execOp, go_sem, Act.put, hsz, s0, s5, s7, s8, s9, hin, hkn, t1, t2, t3, t4, p0, p1, p2, p0', p1', p2', d1]) ?_
            refine h_take (i := 8) (.pointer (some ⟨gp, k * 2, none⟩)) rfl (by kernel_rfl) (by kernel_rfl) (by kernel_rfl) (fun _ _ _ h => h) rfl hS0 (fun W hW => by simp [execOp, go_sem, Act.put, hsz, s0, s5, s7, s8, s9, hin, hkn, t1, t2, t3, t4, p0, p1, p2, p0', p1', p2', d1]) ?_
            refine h_take (i := 9) (.int .i64 (ln' : Int)) rfl (by kernel_rfl) (by kernel_rfl) (by kernel_rfl) (fun _ _ _ h => h) rfl hS0 (fun W hW => ex_getv (p := ⟨gp, k * 2, none⟩) rfl (.inl rfl) (by simp [go_sem, Act.put, hsz, hin, hkn]) (HI.out W hW).2.2.2.1) ?_
            refine h_take (i := 10) (.bool false) rfl (by kernel_rfl) (by kernel_rfl) (by kernel_rfl) (fun _ _ _ h => h) rfl hS0 (fun W hW => by simp [execOp, go_sem, Act.put, hsz, s0, s5, s7, s8, s9, hin, hkn, t1, t2, t3, t4, p0, p1, p2, p0', p1', p2', d1]) ?_
            refine h_take (i := 11) (.bool false) rfl (by kernel_rfl) (by kernel_rfl) (by kernel_rfl) (fun _ _ _ h => h) rfl hS0 (fun W hW => by simp [execOp, go_sem, Act.put, hsz, s0, s5, s7, s8, s9, hin, hkn, t1, t2, t3, t4, p0, p1, p2, p0', p1', p2', d1]) ?_
            refine g_pass (i := 12) rfl (by kernel_rfl) (by kernel_rfl) (by kernel_rfl) (fun _ _ _ h => h) (by simp [Region.wanted, yielded, Act.put, hsz]) hS0 ?_
            refine g_pass (i := 13) rfl (by kernel_rfl) (by kernel_rfl) (by kernel_rfl) (fun _ _ _ h => h) (by simp [Region.wanted, yielded, Act.put, hsz]) hS0 ?_
            refine g_pass (i := 14) rfl (by kernel_rfl) (by kernel_rfl) (by kernel_rfl) (fun _ _ _ h => h) (by simp [Region.wanted, yielded, Act.put, hsz]) hS0 ?_
            refine g_pass (i := 15) rfl (by kernel_rfl) (by kernel_rfl) (by kernel_rfl) (fun _ _ _ h => h) (by simp [Region.wanted, yielded, Act.put, hsz]) hS0 ?_
            refine g_pass (i := 16) rfl (by kernel_rfl) (by kernel_rfl) (by kernel_rfl) (fun _ _ _ h => h) (by simp [Region.wanted, yielded, Act.put, hsz]) hS0 ?_
            refine g_pass (i := 17) rfl (by kernel_rfl) (by kernel_rfl) (by kernel_rfl) (fun _ _ _ h => h) (by simp [Region.wanted, yielded, Act.put, hsz]) hS0 ?_
            refine g_pass (i := 18) rfl (by kernel_rfl) (by kernel_rfl) (by kernel_rfl) (fun _ _ _ h => h) (by simp [Region.wanted, yielded, Act.put, hsz]) hS0 ?_
            refine g_pass (i := 19) rfl (by kernel_rfl) (by kernel_rfl) (by kernel_rfl) (fun _ _ _ h => h) (by simp [Region.wanted, yielded, Act.put, hsz]) hS0 ?_
            refine g_pass (i := 20) rfl (by kernel_rfl) (by kernel_rfl) (by kernel_rfl) (fun _ _ _ h => h) (by simp [Region.wanted, yielded, Act.put, hsz]) hS0 ?_
            refine g_pass (i := 21) rfl (by kernel_rfl) (by kernel_rfl) (by kernel_rfl) (fun _ _ _ h => h) (by simp [Region.wanted, yielded, Act.put, hsz]) hS0 ?_
            refine g_pass (i := 22) rfl (by kernel_rfl) (by kernel_rfl) (by kernel_rfl) (fun _ _ _ h => h) (by simp [Region.wanted, yielded, Act.put, hsz]) hS0 ?_
            refine g_pass (i := 23) rfl (by kernel_rfl) (by kernel_rfl) (by kernel_rfl) (fun _ _ _ h => h) (by simp [Region.wanted, yielded, Act.put, hsz]) hS0 ?_
            refine h_take (i := 24) (.bool false) rfl (by kernel_rfl) (by kernel_rfl) (by kernel_rfl) (fun _ _ _ h => h) rfl hS0 (fun W hW => by simp [execOp, go_sem, Act.put, hsz, s0, s5, s7, s8, s9, hin, hkn, t1, t2, t3, t4, p0, p1, p2, p0', p1', p2', d1]) ?_
            refine h_take (i := 25) (.bool false) rfl (by kernel_rfl) (by kernel_rfl) (by kernel_rfl) (fun _ _ _ h => h) rfl hS0 (fun W hW => by simp [execOp, go_sem, Act.put, hsz, s0, s5, s7, s8, s9, hin, hkn, t1, t2, t3, t4, p0, p1, p2, p0', p1', p2', d1]) ?_
            refine g_pass (i := 26) rfl (by kernel_rfl) (by kernel_rfl) (by kernel_rfl) (fun _ _ _ h => h) (by simp [Region.wanted, yielded, Act.put, hsz]) hS0 ?_
            refine g_pass (i := 27) rfl (by kernel_rfl) (by kernel_rfl) (by kernel_rfl) (fun _ _ _ h => h) (by simp [Region.wanted, yielded, Act.put, hsz]) hS0 ?_
            refine g_pass (i := 28) rfl (by kernel_rfl) (by kernel_rfl) (by kernel_rfl) (fun _ _ _ h => h) (by simp [Region.wanted, yielded, Act.put, hsz]) hS0 ?_
            refine g_pass (i := 29) rfl (by kernel_rfl) (by kernel_rfl) (by kernel_rfl) (fun _ _ _ h => h) (by simp [Region.wanted, yielded, Act.put, hsz]) hS0 ?_
            refine g_pass (i := 30) rfl (by kernel_rfl) (by kernel_rfl) (by kernel_rfl) (fun _ _ _ h => h) (by simp [Region.wanted, yielded, Act.put, hsz]) hS0 ?_
            refine g_pass (i := 31) rfl (by kernel_rfl) (by kernel_rfl) (by kernel_rfl) (fun _ _ _ h => h) (by simp [Region.wanted, yielded, Act.put, hsz]) hS0 ?_
            refine g_pass (i := 32) rfl (by kernel_rfl) (by kernel_rfl) (by kernel_rfl) (fun _ _ _ h => h) (by simp [Region.wanted, yielded, Act.put, hsz]) hS0 ?_
            refine g_pass (i := 33) rfl (by kernel_rfl) (by kernel_rfl) (by kernel_rfl) (fun _ _ _ h => h) (by simp [Region.wanted, yielded, Act.put, hsz]) hS0 ?_
            refine g_pass (i := 34) rfl (by kernel_rfl) (by kernel_rfl) (by kernel_rfl) (fun _ _ _ h => h) (by simp [Region.wanted, yielded, Act.put, hsz]) hS0 ?_
            refine g_pass (i := 35) rfl (by kernel_rfl) (by kernel_rfl) (by kernel_rfl) (fun _ _ _ h => h) (by simp [Region.wanted, yielded, Act.put, hsz]) hS0 ?_
            refine g_pass (i := 36) rfl (by kernel_rfl) (by kernel_rfl) (by kernel_rfl) (fun _ _ _ h => h) (by simp [Region.wanted, yielded, Act.put, hsz]) hS0 ?_
            refine g_pass (i := 37) rfl (by kernel_rfl) (by kernel_rfl) (by kernel_rfl) (fun _ _ _ h => h) (by simp [Region.wanted, yielded, Act.put, hsz]) hS0 ?_
            refine h_take (i := 38) (.bool false) rfl (by kernel_rfl) (by kernel_rfl) (by kernel_rfl) (fun _ _ _ h => h) rfl hS0 (fun W hW => by simp [execOp, go_sem, Act.put, hsz, s0, s5, s7, s8, s9, hin, hkn, t1, t2, t3, t4, p0, p1, p2, p0', p1', p2', d1]) ?_
            refine wpAnyH_done (by kernel_rfl) ?_ _
            subst ha0
            clear hsz s0 s5 s7 s8 s9 hS0 HI HNo
            go_simp
            go_wp2
            go_roundw
            case rel => exact ⟨f + 1, by omega, by go_num, HB.out⟩
            case measure => simp [intOf]; omega
  · have hr : plR P m = none := by
      rcases plan_cases P m with ⟨hr, _⟩ | ⟨M, rfl, _, _, _, _, _, hq⟩
      · exact hr
      · rcases hq with ⟨hr, _⟩ | ⟨B, _, hc, _⟩
        · exact hr
        · exact absurd hc h0
    rw [hr] at HP
    obtain ⟨z, hz⟩ : ∃ z, plC P m = z := ⟨_, rfl⟩
    rw [hz] at HP h0
    have e0 : (z != 0) = true := by simpa using h0
    clear hp hr hz h0
    go_enter Try.func6, Try.ntmps6
    go_wp2_with fail
    refine (HP.out).mono ?_
    rintro e u ⟨pv, rfl, hpv, hb⟩
    have hpv : pv = .slice none 0 0 := hpv
    subst hpv
    have HB : Hid (Below w.heap.size w u) := hb
    clear HP hb
    go_wp2_with fail
    refine (HL.out u).mono ?_
    rintro e u2 ⟨rfl, hb⟩
    have HB2 : Hid (Below w.heap.size w u2) := bsq HB.out hb
    clear hb HB
    go_wp2_with fail
    refine (HL.out u2).mono ?_
    rintro e u3 ⟨rfl, hb⟩
    have HB3 : Hid (Below w.heap.size w u3) := bsq HB2.out hb
    clear hb HB2 HL
    go_wp2
    go_ret
    exact ⟨rfl, HB3.out⟩
end Go.Proofs.Ytcenaleladjakaa.budgetApart
