/- budget: what areBerths, doClash and Check answer. -/
import Derived.Test.YtcenaleladjakabBudP
namespace Go.Proofs.Ytcenaleladjakab.budget
open Go Go.RowKit
set_option linter.unusedVariables false
set_option linter.unusedSimpArgs false
set_option maxRecDepth 100000

theorem v_ldR {ops : Array Oper} {rest : List Oper} {o : Oper} {a : Act} {w : World} {Q : Exit → Act → World → Prop} (hgd : Region.wanted o (yielded ops a.tmps) = true) {t : TypeId} {x : Operand} (ho : o.op = .load t x)
    {g off n : Nat} (hT : Row t n) (hx : a.eval x = .pointer (some ⟨g, off, none⟩)) {r : List Value} (hr : w.rangeAt g off r) (hl : r.length = n)
    (h : wpList Try.prog ops Q rest (a.put o.dst (agv r)) w) : wpList Try.prog ops Q (o :: rest) a w := by
  obtain ⟨d, h1, h2, h3⟩ := hT.ex
  refine wpList_step fun K hK' => ?_
  rw [if_pos hgd]
  unfold Oper.wp execOp
  simp only [ho, hx, Sem.run_bind, run_loadAt_mid w g off t r d hr h1 h2 (by rw [h3, hl]), Result.andThen_ok, Sem.run_pure]
  exact hK' _ _ h
theorem two_range {w : World} {g off : Nat} {x y : Int} (h1 : w.cell? ⟨g, off, none⟩ = some (.int .i64 x)) (h2 : w.cell? ⟨g, off + 1, none⟩ = some (.int .i64 y)) : w.rangeAt g off (ivs [x, y]) := fun j v hv => by
  cases j with
  | zero => simp [ivs] at hv; subst hv; exact h1
  | succ j => cases j with
    | zero => simp [ivs] at hv; subst hv; exact h2
    | succ j => simp [ivs] at hv
def goodB (m p : Int) (b : Bi) : Bool := !(decide (b.1 < 0) || decide (m ≤ b.1) || decide (b.2 < 0) || decide (p ≤ b.2))
theorem goodB_iff {m p : Int} {b : Bi} : goodB m p b = true ↔ 0 ≤ b.1 ∧ b.1 < m ∧ 0 ≤ b.2 ∧ b.2 < p := by
  unfold goodB
  simp
  omega
def areB (P : List Int) (T : List Bi) (m : Int) : Bool := (P.zip T).all fun x => goodB m x.1 x.2
theorem zip_at {P : List Int} {T : List Bi} {k : Nat} {p : Int} {b : Bi} (h1 : P[k]? = some p) (h2 : T[k]? = some b) : (P.zip T)[k]? = some (p, b) := by
  rw [List.getElem?_zip_eq_some]
  exact ⟨h1, h2⟩
theorem all_at {α : Type} {l : List α} {k : Nat} {y : α} {f : α → Bool} (h : l[k]? = some y) : (l.drop k).all f = (f y && (l.drop (k + 1)).all f) := by
  have hk := (List.getElem?_eq_some_iff.1 h).1
  rw [List.drop_eq_getElem_cons hk, (List.getElem?_eq_some_iff.1 h).2, List.all_cons]
set_option maxHeartbeats 4000000 in
theorem areBerths_any (v pv : Value) (P : List Int) (T : List Bi) (m : Int) (w : World) (hv : Ris w v P) (hp : Rbs w pv T) (hl : T.length = P.length) (h64 : P.length ≤ 64) : Calls Try.prog 22 #[v, pv, .int .i64 m] w fun e u => e = .returned (.bool (areB P T m)) ∧ Below w.heap.size w u := by
  obtain ⟨a, c, rfl, hlc, hcm⟩ := hv.form
  obtain ⟨a2, c2, rfl, hlc2, hcm2⟩ := hp.form
  rw [hl] at hp hlc2 ⊢
  have HC : Hid (∀ k, k < P.length → ∃ p b, (P.zip T)[k]? = some (p, b) ∧ (∃ g off, a = some ⟨g, off, none⟩ ∧ ∀ u, Below w.heap.size w u → u.cell? ⟨g, off + k, none⟩ = some (.int .i64 p)) ∧ (∃ g off, a2 = some ⟨g, off, none⟩ ∧ ∀ u, Below w.heap.size w u → u.rangeAt g (off + k * 2) (ivs [b.1, b.2]))) := fun k hk => by
    have e1 := List.getElem?_eq_getElem hk
    have e2 := List.getElem?_eq_getElem (l := T) (i := k) (by omega)
    refine ⟨_, _, zip_at e1 e2, ?_, ?_⟩
    · obtain ⟨g, off, h1, h2⟩ := hv.at k _ e1
      refine ⟨g, off, h1, fun u hb => ?_⟩
      obtain ⟨g', off', h1', h2'⟩ := (hv.below hb).at k _ e1
      rw [h1] at h1'
      injection h1' with h1'
      injection h1' with q1 q2 _
      subst q1 q2
      exact h2'
    · obtain ⟨g, off, h1, h2, h3⟩ := hp.at k _ e2
      refine ⟨g, off, h1, fun u hb => ?_⟩
      obtain ⟨g', off', h1', h2', h3'⟩ := (hp.below hb).at k _ e2
      rw [h1] at h1'
      injection h1' with h1'
      injection h1' with q1 q2 _
      subst q1 q2
      exact two_range h2' h3'
  have HZ : Hid ((P.zip T).length = P.length) := by show _ = _; rw [List.length_zip]; omega
  have HP : Hid (((P.zip T).drop 0).all (fun x => goodB m x.1 x.2) = areB P T m) := rfl
  obtain ⟨R, hR⟩ : ∃ R, areB P T m = R := ⟨_, rfl⟩
  rw [hR] at HP ⊢
  obtain ⟨n, hn⟩ : ∃ n, P.length = n := ⟨_, rfl⟩
  rw [hn] at HC HZ hlc hlc2 h64 ⊢
  unfold maxLen at hcm hcm2
  have HM : Hid (Mm w w []) := Mm.nil w
  clear hv hp hl hn hR
  go_enter Try.func22, Try.ntmps22
  go_wp2
  go_loopw [7, 8, 11] (fun _ _ i wr => ∃ k : Nat, k ≤ n ∧ i = .int .i64 (k : Int) ∧ Hid (Mm w wr [] ∧ ((P.zip T).drop k).all (fun x => goodB m x.1 x.2) = R)) (fun _ _ i _ => n - (intOf i).toNat)
  case atStart => exact ⟨0, Nat.zero_le _, rfl, HM.out, HP.out⟩
  case round =>
    clear HM HP
    obtain ⟨k, hk, rfl, HA⟩ := hrel
    by_cases hlt : ¬ k < n
    · have HQ : Hid (R = true ∧ Below w.heap.size w wr) := ⟨by
        have := HA.out.2
        rw [List.drop_eq_nil_of_le (by have := HZ.out; omega)] at this
        exact this.symm, HA.out.1.below⟩
      clear HA HC HZ
      go_wp2
      go_ret
      rw [HQ.out.1]
      exact ⟨rfl, HQ.out.2⟩
    have hlt : k < n := by omega
    obtain ⟨p, ⟨bl, bp⟩, h1, ⟨g, off, rfl, hc⟩, ⟨g2, off2, rfl, hr⟩⟩ := HC.out k hlt
    have HA2 : Hid ((goodB m p (bl, bp) && ((P.zip T).drop (k + 1)).all (fun x => goodB m x.1 x.2)) = R) := by have := HA.out.2; rw [all_at h1] at this; exact this
    have hM := HA.out.1
    have HRG : Hid (wr.rangeAt g2 (off2 + k * 2) (ivs [bl, bp])) := hr wr hM.below
    have HCL : Hid (∀ u, Below w.heap.size w u → u.cell? ⟨g, off + k, none⟩ = some (.int .i64 p)) := hc
    have HV : Hid (Vs (ivs [bl, bp]) 2) := two_vs _ _
    have HV2 : Hid ((ivs [0, 0]).length = 2) := rfl
    clear HA HC hc hr h1
    repeat' (first | (go_big_may; first | (refine v_ldR rfl rfl row_berth rfl HRG.out rfl ?_) | (refine v_alloc rfl zer_berth rfl ?_; intro u zb hN; replace hM := hM.new hN; clear hN) | (refine v_fill rfl rfl row_berth rfl rfl hM.at0 HV.out HV2.out ?_; intro u hv hc; replace hM := hM.put0 hc hv; clear hv hc)) | go_values | go_skip | go_guarded | go_step | go_upon | (simp only [Int.not_lt, Int.not_le] at *; go_simp))
    have HM : Hid (Mm w u [(zb, 33, ivs [bl, bp])]) := hM
    have HB : Hid (Mm w u.drew []) := hM.drew.sub (by simp)
    clear hM HRG HV HV2
    -- AREB
    by_cases c1 : bl < 0
    · have d1 : decide (bl < 0) = true := decide_eq_true c1
      have f1 := c1
      have HQ : Hid (R = false) := by
        have hA := HA2.out
        rw [show goodB m p (bl, bp) = false by unfold goodB; simp only [d1, Bool.true_or, Bool.or_true]; rfl] at hA
        exact hA.symm
      clear HA2
      go_upto_region 4 with (fail)
      refine wp_abs (fun a0 => a0.tmps.size = 40 ∧ (∀ h, a0.tmps[0]'h = .slice (some ⟨g, off, none⟩) n c) ∧ (∀ h, a0.tmps[2]'h = .int .i64 m) ∧ (∀ h, a0.tmps[7]'h = .int .i64 (k : Int)) ∧ (∀ h, a0.tmps[8]'h = .pointer (some ⟨zb, 0, none⟩))) ⟨rfl, fun _ => rfl, fun _ => rfl, fun _ => rfl, fun _ => rfl⟩ ?_
      rintro a0 ⟨hsz, s0, s2, s7, s8⟩ ha0
      refine wp_region_held (S := fun W => Mm w W [(zb, 33, ivs [bl, bp])]) (by kernel_rfl) ?_
      have hS0 : Mm w u.drew [(zb, 33, ivs [bl, bp])] := HM.out.drew
      refine h_take (i := 0) (.pointer (some ⟨zb, 0, none⟩)) rfl (by kernel_rfl) (by kernel_rfl) (by kernel_rfl) (fun _ _ _ h => h) rfl hS0 (fun W hW => by simp [execOp, go_sem, Act.put, hsz, s0, s2, s7, s8, hlt, d1, f1]) ?_
      refine h_take (i := 1) (.int .i64 bl) rfl (by kernel_rfl) (by kernel_rfl) (by kernel_rfl) (fun _ _ _ h => h) rfl hS0 (fun W hW => ex_getv (p := ⟨zb, 0, none⟩) rfl (.inl rfl) (by simp [go_sem, Act.put, hsz]) (bv_cell hW.at0 rfl)) ?_
      refine h_take (i := 2) (.bool true) rfl (by kernel_rfl) (by kernel_rfl) (by kernel_rfl) (fun _ _ _ h => h) rfl hS0 (fun W hW => by simp [execOp, go_sem, Act.put, hsz, s0, s2, s7, s8, hlt, d1, f1]) ?_
      refine h_take (i := 3) (.bool true) rfl (by kernel_rfl) (by kernel_rfl) (by kernel_rfl) (fun _ _ _ h => h) rfl hS0 (fun W hW => by simp [execOp, go_sem, Act.put, hsz, s0, s2, s7, s8, hlt, d1, f1]) ?_
      refine g_pass (i := 4) rfl (by kernel_rfl) (by kernel_rfl) (by kernel_rfl) (fun _ _ _ h => h) (by simp [Region.wanted, yielded, Act.put, hsz]) hS0 ?_
      refine g_pass (i := 5) rfl (by kernel_rfl) (by kernel_rfl) (by kernel_rfl) (fun _ _ _ h => h) (by simp [Region.wanted, yielded, Act.put, hsz]) hS0 ?_
      refine g_pass (i := 6) rfl (by kernel_rfl) (by kernel_rfl) (by kernel_rfl) (fun _ _ _ h => h) (by simp [Region.wanted, yielded, Act.put, hsz]) hS0 ?_
      refine g_pass (i := 7) rfl (by kernel_rfl) (by kernel_rfl) (by kernel_rfl) (fun _ _ _ h => h) (by simp [Region.wanted, yielded, Act.put, hsz]) hS0 ?_
      refine h_take (i := 8) (.bool true) rfl (by kernel_rfl) (by kernel_rfl) (by kernel_rfl) (fun _ _ _ h => h) rfl hS0 (fun W hW => by simp [execOp, go_sem, Act.put, hsz, s0, s2, s7, s8, hlt, d1, f1]) ?_
      refine h_take (i := 9) (.bool true) rfl (by kernel_rfl) (by kernel_rfl) (by kernel_rfl) (fun _ _ _ h => h) rfl hS0 (fun W hW => by simp [execOp, go_sem, Act.put, hsz, s0, s2, s7, s8, hlt, d1, f1]) ?_
      refine g_pass (i := 10) rfl (by kernel_rfl) (by kernel_rfl) (by kernel_rfl) (fun _ _ _ h => h) (by simp [Region.wanted, yielded, Act.put, hsz]) hS0 ?_
      refine g_pass (i := 11) rfl (by kernel_rfl) (by kernel_rfl) (by kernel_rfl) (fun _ _ _ h => h) (by simp [Region.wanted, yielded, Act.put, hsz]) hS0 ?_
      refine g_pass (i := 12) rfl (by kernel_rfl) (by kernel_rfl) (by kernel_rfl) (fun _ _ _ h => h) (by simp [Region.wanted, yielded, Act.put, hsz]) hS0 ?_
      refine h_take (i := 13) (.bool true) rfl (by kernel_rfl) (by kernel_rfl) (by kernel_rfl) (fun _ _ _ h => h) rfl hS0 (fun W hW => by simp [execOp, go_sem, Act.put, hsz, s0, s2, s7, s8, hlt, d1, f1]) ?_
      refine h_take (i := 14) (.bool true) rfl (by kernel_rfl) (by kernel_rfl) (by kernel_rfl) (fun _ _ _ h => h) rfl hS0 (fun W hW => by simp [execOp, go_sem, Act.put, hsz, s0, s2, s7, s8, hlt, d1, f1]) ?_
      refine g_pass (i := 15) rfl (by kernel_rfl) (by kernel_rfl) (by kernel_rfl) (fun _ _ _ h => h) (by simp [Region.wanted, yielded, Act.put, hsz]) hS0 ?_
      refine g_pass (i := 16) rfl (by kernel_rfl) (by kernel_rfl) (by kernel_rfl) (fun _ _ _ h => h) (by simp [Region.wanted, yielded, Act.put, hsz]) hS0 ?_
      refine g_pass (i := 17) rfl (by kernel_rfl) (by kernel_rfl) (by kernel_rfl) (fun _ _ _ h => h) (by simp [Region.wanted, yielded, Act.put, hsz]) hS0 ?_
      refine g_pass (i := 18) rfl (by kernel_rfl) (by kernel_rfl) (by kernel_rfl) (fun _ _ _ h => h) (by simp [Region.wanted, yielded, Act.put, hsz]) hS0 ?_
      refine g_pass (i := 19) rfl (by kernel_rfl) (by kernel_rfl) (by kernel_rfl) (fun _ _ _ h => h) (by simp [Region.wanted, yielded, Act.put, hsz]) hS0 ?_
      refine g_pass (i := 20) rfl (by kernel_rfl) (by kernel_rfl) (by kernel_rfl) (fun _ _ _ h => h) (by simp [Region.wanted, yielded, Act.put, hsz]) hS0 ?_
      refine g_pass (i := 21) rfl (by kernel_rfl) (by kernel_rfl) (by kernel_rfl) (fun _ _ _ h => h) (by simp [Region.wanted, yielded, Act.put, hsz]) hS0 ?_
      refine h_take (i := 22) (.bool true) rfl (by kernel_rfl) (by kernel_rfl) (by kernel_rfl) (fun _ _ _ h => h) rfl hS0 (fun W hW => by simp [execOp, go_sem, Act.put, hsz, s0, s2, s7, s8, hlt, d1, f1]) ?_
      refine wpAnyH_done (by kernel_rfl) ?_ _
      subst ha0
      clear hsz s0 s2 s7 s8 hS0 HM HCL
      go_simp
      go_wp2
      go_ret
      rw [HQ.out]
      exact ⟨rfl, HB.out.below⟩
    · have d1 : decide (bl < 0) = false := decide_eq_false c1
      have f1 := c1
      by_cases c2 : m ≤ bl
      · have d2 : decide (m ≤ bl) = true := decide_eq_true c2
        have f2 := c2
        have HQ : Hid (R = false) := by
          have hA := HA2.out
          rw [show goodB m p (bl, bp) = false by unfold goodB; simp only [d1, d2, Bool.true_or, Bool.or_true]; rfl] at hA
          exact hA.symm
        clear HA2
        go_upto_region 4 with (fail)
        refine wp_abs (fun a0 => a0.tmps.size = 40 ∧ (∀ h, a0.tmps[0]'h = .slice (some ⟨g, off, none⟩) n c) ∧ (∀ h, a0.tmps[2]'h = .int .i64 m) ∧ (∀ h, a0.tmps[7]'h = .int .i64 (k : Int)) ∧ (∀ h, a0.tmps[8]'h = .pointer (some ⟨zb, 0, none⟩))) ⟨rfl, fun _ => rfl, fun _ => rfl, fun _ => rfl, fun _ => rfl⟩ ?_
        rintro a0 ⟨hsz, s0, s2, s7, s8⟩ ha0
        refine wp_region_held (S := fun W => Mm w W [(zb, 33, ivs [bl, bp])]) (by kernel_rfl) ?_
        have hS0 : Mm w u.drew [(zb, 33, ivs [bl, bp])] := HM.out.drew
        refine h_take (i := 0) (.pointer (some ⟨zb, 0, none⟩)) rfl (by kernel_rfl) (by kernel_rfl) (by kernel_rfl) (fun _ _ _ h => h) rfl hS0 (fun W hW => by simp [execOp, go_sem, Act.put, hsz, s0, s2, s7, s8, hlt, d1, d2, f2, f1]) ?_
        refine h_take (i := 1) (.int .i64 bl) rfl (by kernel_rfl) (by kernel_rfl) (by kernel_rfl) (fun _ _ _ h => h) rfl hS0 (fun W hW => ex_getv (p := ⟨zb, 0, none⟩) rfl (.inl rfl) (by simp [go_sem, Act.put, hsz]) (bv_cell hW.at0 rfl)) ?_
        refine h_take (i := 2) (.bool false) rfl (by kernel_rfl) (by kernel_rfl) (by kernel_rfl) (fun _ _ _ h => h) rfl hS0 (fun W hW => by simp [execOp, go_sem, Act.put, hsz, s0, s2, s7, s8, hlt, d1, d2, f2, f1]) ?_
        refine h_take (i := 3) (.bool false) rfl (by kernel_rfl) (by kernel_rfl) (by kernel_rfl) (fun _ _ _ h => h) rfl hS0 (fun W hW => by simp [execOp, go_sem, Act.put, hsz, s0, s2, s7, s8, hlt, d1, d2, f2, f1]) ?_
        refine g_take (i := 4) (.pointer (some ⟨zb, 0, none⟩)) rfl (by kernel_rfl) (by kernel_rfl) (by kernel_rfl) (fun _ _ _ h => h) (by simp [Region.wanted, yielded, Act.put, hsz]) hS0 (fun W hW => by simp [execOp, go_sem, Act.put, hsz, s0, s2, s7, s8, hlt, d1, d2, f2, f1]) ?_
        refine g_take (i := 5) (.int .i64 bl) rfl (by kernel_rfl) (by kernel_rfl) (by kernel_rfl) (fun _ _ _ h => h) (by simp [Region.wanted, yielded, Act.put, hsz]) hS0 (fun W hW => ex_getv (p := ⟨zb, 0, none⟩) rfl (.inl rfl) (by simp [go_sem, Act.put, hsz, s0, s7]) (bv_cell hW.at0 rfl)) ?_
        refine g_take (i := 6) (.int .i64 m) rfl (by kernel_rfl) (by kernel_rfl) (by kernel_rfl) (fun _ _ _ h => h) (by simp [Region.wanted, yielded, Act.put, hsz]) hS0 (fun W hW => by simp [execOp, go_sem, Act.put, hsz, s0, s2, s7, s8, hlt, d1, d2, f2, f1]) ?_
        refine g_take (i := 7) (.bool true) rfl (by kernel_rfl) (by kernel_rfl) (by kernel_rfl) (fun _ _ _ h => h) (by simp [Region.wanted, yielded, Act.put, hsz]) hS0 (fun W hW => by simp [execOp, go_sem, Act.put, hsz, s0, s2, s7, s8, hlt, d1, d2, f2, f1]) ?_
        refine h_take (i := 8) (.bool true) rfl (by kernel_rfl) (by kernel_rfl) (by kernel_rfl) (fun _ _ _ h => h) rfl hS0 (fun W hW => by simp [execOp, go_sem, Act.put, hsz, s0, s2, s7, s8, hlt, d1, d2, f2, f1]) ?_
        refine h_take (i := 9) (.bool true) rfl (by kernel_rfl) (by kernel_rfl) (by kernel_rfl) (fun _ _ _ h => h) rfl hS0 (fun W hW => by simp [execOp, go_sem, Act.put, hsz, s0, s2, s7, s8, hlt, d1, d2, f2, f1]) ?_
        refine g_pass (i := 10) rfl (by kernel_rfl) (by kernel_rfl) (by kernel_rfl) (fun _ _ _ h => h) (by simp [Region.wanted, yielded, Act.put, hsz]) hS0 ?_
        refine g_pass (i := 11) rfl (by kernel_rfl) (by kernel_rfl) (by kernel_rfl) (fun _ _ _ h => h) (by simp [Region.wanted, yielded, Act.put, hsz]) hS0 ?_
        refine g_pass (i := 12) rfl (by kernel_rfl) (by kernel_rfl) (by kernel_rfl) (fun _ _ _ h => h) (by simp [Region.wanted, yielded, Act.put, hsz]) hS0 ?_
        refine h_take (i := 13) (.bool true) rfl (by kernel_rfl) (by kernel_rfl) (by kernel_rfl) (fun _ _ _ h => h) rfl hS0 (fun W hW => by simp [execOp, go_sem, Act.put, hsz, s0, s2, s7, s8, hlt, d1, d2, f2, f1]) ?_
        refine h_take (i := 14) (.bool true) rfl (by kernel_rfl) (by kernel_rfl) (by kernel_rfl) (fun _ _ _ h => h) rfl hS0 (fun W hW => by simp [execOp, go_sem, Act.put, hsz, s0, s2, s7, s8, hlt, d1, d2, f2, f1]) ?_
        refine g_pass (i := 15) rfl (by kernel_rfl) (by kernel_rfl) (by kernel_rfl) (fun _ _ _ h => h) (by simp [Region.wanted, yielded, Act.put, hsz]) hS0 ?_
        refine g_pass (i := 16) rfl (by kernel_rfl) (by kernel_rfl) (by kernel_rfl) (fun _ _ _ h => h) (by simp [Region.wanted, yielded, Act.put, hsz]) hS0 ?_
        refine g_pass (i := 17) rfl (by kernel_rfl) (by kernel_rfl) (by kernel_rfl) (fun _ _ _ h => h) (by simp [Region.wanted, yielded, Act.put, hsz]) hS0 ?_
        refine g_pass (i := 18) rfl (by kernel_rfl) (by kernel_rfl) (by kernel_rfl) (fun _ _ _ h => h) (by simp [Region.wanted, yielded, Act.put, hsz]) hS0 ?_
        refine g_pass (i := 19) rfl (by kernel_rfl) (by kernel_rfl) (by kernel_rfl) (fun _ _ _ h => h) (by simp [Region.wanted, yielded, Act.put, hsz]) hS0 ?_
        refine g_pass (i := 20) rfl (by kernel_rfl) (by kernel_rfl) (by kernel_rfl) (fun _ _ _ h => h) (by simp [Region.wanted, yielded, Act.put, hsz]) hS0 ?_
        refine g_pass (i := 21) rfl (by kernel_rfl) (by kernel_rfl) (by kernel_rfl) (fun _ _ _ h => h) (by simp [Region.wanted, yielded, Act.put, hsz]) hS0 ?_
        refine h_take (i := 22) (.bool true) rfl (by kernel_rfl) (by kernel_rfl) (by kernel_rfl) (fun _ _ _ h => h) rfl hS0 (fun W hW => by simp [execOp, go_sem, Act.put, hsz, s0, s2, s7, s8, hlt, d1, d2, f2, f1]) ?_
        refine wpAnyH_done (by kernel_rfl) ?_ _
        subst ha0
        clear hsz s0 s2 s7 s8 hS0 HM HCL
        go_simp
        go_wp2
        go_ret
        rw [HQ.out]
        exact ⟨rfl, HB.out.below⟩
      · have d2 : decide (m ≤ bl) = false := decide_eq_false c2
        have f2 := c2
        by_cases c3 : bp < 0
        · have d3 : decide (bp < 0) = true := decide_eq_true c3
          have f3 := c3
          have HQ : Hid (R = false) := by
            have hA := HA2.out
            rw [show goodB m p (bl, bp) = false by unfold goodB; simp only [d1, d2, d3, Bool.true_or, Bool.or_true]; rfl] at hA
            exact hA.symm
          clear HA2
          go_upto_region 4 with (fail)
          refine wp_abs (fun a0 => a0.tmps.size = 40 ∧ (∀ h, a0.tmps[0]'h = .slice (some ⟨g, off, none⟩) n c) ∧ (∀ h, a0.tmps[2]'h = .int .i64 m) ∧ (∀ h, a0.tmps[7]'h = .int .i64 (k : Int)) ∧ (∀ h, a0.tmps[8]'h = .pointer (some ⟨zb, 0, none⟩))) ⟨rfl, fun _ => rfl, fun _ => rfl, fun _ => rfl, fun _ => rfl⟩ ?_
          rintro a0 ⟨hsz, s0, s2, s7, s8⟩ ha0
          refine wp_region_held (S := fun W => Mm w W [(zb, 33, ivs [bl, bp])]) (by kernel_rfl) ?_
          have hS0 : Mm w u.drew [(zb, 33, ivs [bl, bp])] := HM.out.drew
          refine h_take (i := 0) (.pointer (some ⟨zb, 0, none⟩)) rfl (by kernel_rfl) (by kernel_rfl) (by kernel_rfl) (fun _ _ _ h => h) rfl hS0 (fun W hW => by simp [execOp, go_sem, Act.put, hsz, s0, s2, s7, s8, hlt, d1, d2, f2, d3, f3, f1]) ?_
          refine h_take (i := 1) (.int .i64 bl) rfl (by kernel_rfl) (by kernel_rfl) (by kernel_rfl) (fun _ _ _ h => h) rfl hS0 (fun W hW => ex_getv (p := ⟨zb, 0, none⟩) rfl (.inl rfl) (by simp [go_sem, Act.put, hsz]) (bv_cell hW.at0 rfl)) ?_
          refine h_take (i := 2) (.bool false) rfl (by kernel_rfl) (by kernel_rfl) (by kernel_rfl) (fun _ _ _ h => h) rfl hS0 (fun W hW => by simp [execOp, go_sem, Act.put, hsz, s0, s2, s7, s8, hlt, d1, d2, f2, d3, f3, f1]) ?_
          refine h_take (i := 3) (.bool false) rfl (by kernel_rfl) (by kernel_rfl) (by kernel_rfl) (fun _ _ _ h => h) rfl hS0 (fun W hW => by simp [execOp, go_sem, Act.put, hsz, s0, s2, s7, s8, hlt, d1, d2, f2, d3, f3, f1]) ?_
          refine g_take (i := 4) (.pointer (some ⟨zb, 0, none⟩)) rfl (by kernel_rfl) (by kernel_rfl) (by kernel_rfl) (fun _ _ _ h => h) (by simp [Region.wanted, yielded, Act.put, hsz]) hS0 (fun W hW => by simp [execOp, go_sem, Act.put, hsz, s0, s2, s7, s8, hlt, d1, d2, f2, d3, f3, f1]) ?_
          refine g_take (i := 5) (.int .i64 bl) rfl (by kernel_rfl) (by kernel_rfl) (by kernel_rfl) (fun _ _ _ h => h) (by simp [Region.wanted, yielded, Act.put, hsz]) hS0 (fun W hW => ex_getv (p := ⟨zb, 0, none⟩) rfl (.inl rfl) (by simp [go_sem, Act.put, hsz, s0, s7]) (bv_cell hW.at0 rfl)) ?_
          refine g_take (i := 6) (.int .i64 m) rfl (by kernel_rfl) (by kernel_rfl) (by kernel_rfl) (fun _ _ _ h => h) (by simp [Region.wanted, yielded, Act.put, hsz]) hS0 (fun W hW => by simp [execOp, go_sem, Act.put, hsz, s0, s2, s7, s8, hlt, d1, d2, f2, d3, f3, f1]) ?_
          refine g_take (i := 7) (.bool false) rfl (by kernel_rfl) (by kernel_rfl) (by kernel_rfl) (fun _ _ _ h => h) (by simp [Region.wanted, yielded, Act.put, hsz]) hS0 (fun W hW => by simp [execOp, go_sem, Act.put, hsz, s0, s2, s7, s8, hlt, d1, d2, f2, d3, f3, f1]) ?_
          refine h_take (i := 8) (.bool false) rfl (by kernel_rfl) (by kernel_rfl) (by kernel_rfl) (fun _ _ _ h => h) rfl hS0 (fun W hW => by simp [execOp, go_sem, Act.put, hsz, s0, s2, s7, s8, hlt, d1, d2, f2, d3, f3, f1]) ?_
          refine h_take (i := 9) (.bool false) rfl (by kernel_rfl) (by kernel_rfl) (by kernel_rfl) (fun _ _ _ h => h) rfl hS0 (fun W hW => by simp [execOp, go_sem, Act.put, hsz, s0, s2, s7, s8, hlt, d1, d2, f2, d3, f3, f1]) ?_
          refine g_take (i := 10) (.pointer (some ⟨zb, 1, none⟩)) rfl (by kernel_rfl) (by kernel_rfl) (by kernel_rfl) (fun _ _ _ h => h) (by simp [Region.wanted, yielded, Act.put, hsz]) hS0 (fun W hW => by simp [execOp, go_sem, Act.put, hsz, s0, s2, s7, s8, hlt, d1, d2, f2, d3, f3, f1]) ?_
          refine g_take (i := 11) (.int .i64 bp) rfl (by kernel_rfl) (by kernel_rfl) (by kernel_rfl) (fun _ _ _ h => h) (by simp [Region.wanted, yielded, Act.put, hsz]) hS0 (fun W hW => ex_getv (p := ⟨zb, 1, none⟩) rfl (.inl rfl) (by simp [go_sem, Act.put, hsz, s0, s7]) (bv_cell hW.at0 rfl)) ?_
          refine g_take (i := 12) (.bool true) rfl (by kernel_rfl) (by kernel_rfl) (by kernel_rfl) (fun _ _ _ h => h) (by simp [Region.wanted, yielded, Act.put, hsz]) hS0 (fun W hW => by simp [execOp, go_sem, Act.put, hsz, s0, s2, s7, s8, hlt, d1, d2, f2, d3, f3, f1]) ?_
          refine h_take (i := 13) (.bool true) rfl (by kernel_rfl) (by kernel_rfl) (by kernel_rfl) (fun _ _ _ h => h) rfl hS0 (fun W hW => by simp [execOp, go_sem, Act.put, hsz, s0, s2, s7, s8, hlt, d1, d2, f2, d3, f3, f1]) ?_
          refine h_take (i := 14) (.bool true) rfl (by kernel_rfl) (by kernel_rfl) (by kernel_rfl) (fun _ _ _ h => h) rfl hS0 (fun W hW => by simp [execOp, go_sem, Act.put, hsz, s0, s2, s7, s8, hlt, d1, d2, f2, d3, f3, f1]) ?_
          refine g_pass (i := 15) rfl (by kernel_rfl) (by kernel_rfl) (by kernel_rfl) (fun _ _ _ h => h) (by simp [Region.wanted, yielded, Act.put, hsz]) hS0 ?_
          refine g_pass (i := 16) rfl (by kernel_rfl) (by kernel_rfl) (by kernel_rfl) (fun _ _ _ h => h) (by simp [Region.wanted, yielded, Act.put, hsz]) hS0 ?_
          refine g_pass (i := 17) rfl (by kernel_rfl) (by kernel_rfl) (by kernel_rfl) (fun _ _ _ h => h) (by simp [Region.wanted, yielded, Act.put, hsz]) hS0 ?_
          refine g_pass (i := 18) rfl (by kernel_rfl) (by kernel_rfl) (by kernel_rfl) (fun _ _ _ h => h) (by simp [Region.wanted, yielded, Act.put, hsz]) hS0 ?_
          refine g_pass (i := 19) rfl (by kernel_rfl) (by kernel_rfl) (by kernel_rfl) (fun _ _ _ h => h) (by simp [Region.wanted, yielded, Act.put, hsz]) hS0 ?_
          refine g_pass (i := 20) rfl (by kernel_rfl) (by kernel_rfl) (by kernel_rfl) (fun _ _ _ h => h) (by simp [Region.wanted, yielded, Act.put, hsz]) hS0 ?_
          refine g_pass (i := 21) rfl (by kernel_rfl) (by kernel_rfl) (by kernel_rfl) (fun _ _ _ h => h) (by simp [Region.wanted, yielded, Act.put, hsz]) hS0 ?_
          refine h_take (i := 22) (.bool true) rfl (by kernel_rfl) (by kernel_rfl) (by kernel_rfl) (fun _ _ _ h => h) rfl hS0 (fun W hW => by simp [execOp, go_sem, Act.put, hsz, s0, s2, s7, s8, hlt, d1, d2, f2, d3, f3, f1]) ?_
          refine wpAnyH_done (by kernel_rfl) ?_ _
          subst ha0
          clear hsz s0 s2 s7 s8 hS0 HM HCL
          go_simp
          go_wp2
          go_ret
          rw [HQ.out]
          exact ⟨rfl, HB.out.below⟩
        · have d3 : decide (bp < 0) = false := decide_eq_false c3
          have f3 := c3
          by_cases c4 : p ≤ bp
          · have d4 : decide (p ≤ bp) = true := decide_eq_true c4
            have f4 := c4
            have HQ : Hid (R = false) := by
              have hA := HA2.out
              rw [show goodB m p (bl, bp) = false by unfold goodB; simp only [d1, d2, d3, d4, Bool.true_or, Bool.or_true]; rfl] at hA
              exact hA.symm
            clear HA2
            go_upto_region 4 with (fail)
            refine wp_abs (fun a0 => a0.tmps.size = 40 ∧ (∀ h, a0.tmps[0]'h = .slice (some ⟨g, off, none⟩) n c) ∧ (∀ h, a0.tmps[2]'h = .int .i64 m) ∧ (∀ h, a0.tmps[7]'h = .int .i64 (k : Int)) ∧ (∀ h, a0.tmps[8]'h = .pointer (some ⟨zb, 0, none⟩))) ⟨rfl, fun _ => rfl, fun _ => rfl, fun _ => rfl, fun _ => rfl⟩ ?_
            rintro a0 ⟨hsz, s0, s2, s7, s8⟩ ha0
            refine wp_region_held (S := fun W => Mm w W [(zb, 33, ivs [bl, bp])]) (by kernel_rfl) ?_
            have hS0 : Mm w u.drew [(zb, 33, ivs [bl, bp])] := HM.out.drew
            refine h_take (i := 0) (.pointer (some ⟨zb, 0, none⟩)) rfl (by kernel_rfl) (by kernel_rfl) (by kernel_rfl) (fun _ _ _ h => h) rfl hS0 (fun W hW => by simp [execOp, go_sem, Act.put, hsz, s0, s2, s7, s8, hlt, d1, d2, f2, d3, f3, d4, f4, f1]) ?_
            refine h_take (i := 1) (.int .i64 bl) rfl (by kernel_rfl) (by kernel_rfl) (by kernel_rfl) (fun _ _ _ h => h) rfl hS0 (fun W hW => ex_getv (p := ⟨zb, 0, none⟩) rfl (.inl rfl) (by simp [go_sem, Act.put, hsz]) (bv_cell hW.at0 rfl)) ?_
            refine h_take (i := 2) (.bool false) rfl (by kernel_rfl) (by kernel_rfl) (by kernel_rfl) (fun _ _ _ h => h) rfl hS0 (fun W hW => by simp [execOp, go_sem, Act.put, hsz, s0, s2, s7, s8, hlt, d1, d2, f2, d3, f3, d4, f4, f1]) ?_
            refine h_take (i := 3) (.bool false) rfl (by kernel_rfl) (by kernel_rfl) (by kernel_rfl) (fun _ _ _ h => h) rfl hS0 (fun W hW => by simp [execOp, go_sem, Act.put, hsz, s0, s2, s7, s8, hlt, d1, d2, f2, d3, f3, d4, f4, f1]) ?_
            refine g_take (i := 4) (.pointer (some ⟨zb, 0, none⟩)) rfl (by kernel_rfl) (by kernel_rfl) (by kernel_rfl) (fun _ _ _ h => h) (by simp [Region.wanted, yielded, Act.put, hsz]) hS0 (fun W hW => by simp [execOp, go_sem, Act.put, hsz, s0, s2, s7, s8, hlt, d1, d2, f2, d3, f3, d4, f4, f1]) ?_
            refine g_take (i := 5) (.int .i64 bl) rfl (by kernel_rfl) (by kernel_rfl) (by kernel_rfl) (fun _ _ _ h => h) (by simp [Region.wanted, yielded, Act.put, hsz]) hS0 (fun W hW => ex_getv (p := ⟨zb, 0, none⟩) rfl (.inl rfl) (by simp [go_sem, Act.put, hsz, s0, s7]) (bv_cell hW.at0 rfl)) ?_
            refine g_take (i := 6) (.int .i64 m) rfl (by kernel_rfl) (by kernel_rfl) (by kernel_rfl) (fun _ _ _ h => h) (by simp [Region.wanted, yielded, Act.put, hsz]) hS0 (fun W hW => by simp [execOp, go_sem, Act.put, hsz, s0, s2, s7, s8, hlt, d1, d2, f2, d3, f3, d4, f4, f1]) ?_
            refine g_take (i := 7) (.bool false) rfl (by kernel_rfl) (by kernel_rfl) (by kernel_rfl) (fun _ _ _ h => h) (by simp [Region.wanted, yielded, Act.put, hsz]) hS0 (fun W hW => by simp [execOp, go_sem, Act.put, hsz, s0, s2, s7, s8, hlt, d1, d2, f2, d3, f3, d4, f4, f1]) ?_
            refine h_take (i := 8) (.bool false) rfl (by kernel_rfl) (by kernel_rfl) (by kernel_rfl) (fun _ _ _ h => h) rfl hS0 (fun W hW => by simp [execOp, go_sem, Act.put, hsz, s0, s2, s7, s8, hlt, d1, d2, f2, d3, f3, d4, f4, f1]) ?_
            refine h_take (i := 9) (.bool false) rfl (by kernel_rfl) (by kernel_rfl) (by kernel_rfl) (fun _ _ _ h => h) rfl hS0 (fun W hW => by simp [execOp, go_sem, Act.put, hsz, s0, s2, s7, s8, hlt, d1, d2, f2, d3, f3, d4, f4, f1]) ?_
            refine g_take (i := 10) (.pointer (some ⟨zb, 1, none⟩)) rfl (by kernel_rfl) (by kernel_rfl) (by kernel_rfl) (fun _ _ _ h => h) (by simp [Region.wanted, yielded, Act.put, hsz]) hS0 (fun W hW => by simp [execOp, go_sem, Act.put, hsz, s0, s2, s7, s8, hlt, d1, d2, f2, d3, f3, d4, f4, f1]) ?_
            refine g_take (i := 11) (.int .i64 bp) rfl (by kernel_rfl) (by kernel_rfl) (by kernel_rfl) (fun _ _ _ h => h) (by simp [Region.wanted, yielded, Act.put, hsz]) hS0 (fun W hW => ex_getv (p := ⟨zb, 1, none⟩) rfl (.inl rfl) (by simp [go_sem, Act.put, hsz, s0, s7]) (bv_cell hW.at0 rfl)) ?_
            refine g_take (i := 12) (.bool false) rfl (by kernel_rfl) (by kernel_rfl) (by kernel_rfl) (fun _ _ _ h => h) (by simp [Region.wanted, yielded, Act.put, hsz]) hS0 (fun W hW => by simp [execOp, go_sem, Act.put, hsz, s0, s2, s7, s8, hlt, d1, d2, f2, d3, f3, d4, f4, f1]) ?_
            refine h_take (i := 13) (.bool false) rfl (by kernel_rfl) (by kernel_rfl) (by kernel_rfl) (fun _ _ _ h => h) rfl hS0 (fun W hW => by simp [execOp, go_sem, Act.put, hsz, s0, s2, s7, s8, hlt, d1, d2, f2, d3, f3, d4, f4, f1]) ?_
            refine h_take (i := 14) (.bool false) rfl (by kernel_rfl) (by kernel_rfl) (by kernel_rfl) (fun _ _ _ h => h) rfl hS0 (fun W hW => by simp [execOp, go_sem, Act.put, hsz, s0, s2, s7, s8, hlt, d1, d2, f2, d3, f3, d4, f4, f1]) ?_
            refine g_take (i := 15) (.pointer (some ⟨zb, 1, none⟩)) rfl (by kernel_rfl) (by kernel_rfl) (by kernel_rfl) (fun _ _ _ h => h) (by simp [Region.wanted, yielded, Act.put, hsz]) hS0 (fun W hW => by simp [execOp, go_sem, Act.put, hsz, s0, s2, s7, s8, hlt, d1, d2, f2, d3, f3, d4, f4, f1]) ?_
            refine g_take (i := 16) (.int .i64 bp) rfl (by kernel_rfl) (by kernel_rfl) (by kernel_rfl) (fun _ _ _ h => h) (by simp [Region.wanted, yielded, Act.put, hsz]) hS0 (fun W hW => ex_getv (p := ⟨zb, 1, none⟩) rfl (.inl rfl) (by simp [go_sem, Act.put, hsz, s0, s7]) (bv_cell hW.at0 rfl)) ?_
            refine g_take (i := 17) (.slice (some ⟨g, off, none⟩) n c) rfl (by kernel_rfl) (by kernel_rfl) (by kernel_rfl) (fun _ _ _ h => h) (by simp [Region.wanted, yielded, Act.put, hsz]) hS0 (fun W hW => by simp [execOp, go_sem, Act.put, hsz, s0, s2, s7, s8, hlt, d1, d2, f2, d3, f3, d4, f4, f1]) ?_
            refine g_take (i := 18) (.int .i64 (k : Int)) rfl (by kernel_rfl) (by kernel_rfl) (by kernel_rfl) (fun _ _ _ h => h) (by simp [Region.wanted, yielded, Act.put, hsz]) hS0 (fun W hW => by simp [execOp, go_sem, Act.put, hsz, s0, s2, s7, s8, hlt, d1, d2, f2, d3, f3, d4, f4, f1]) ?_
            refine g_take (i := 19) (.pointer (some ⟨g, off + k, none⟩)) rfl (by kernel_rfl) (by kernel_rfl) (by kernel_rfl) (fun _ _ _ h => h) (by simp [Region.wanted, yielded, Act.put, hsz]) hS0 (fun W hW => by simp [execOp, go_sem, Act.put, hsz, s0, s2, s7, s8, hlt, d1, d2, f2, d3, f3, d4, f4, f1]) ?_
            refine g_take (i := 20) (.int .i64 p) rfl (by kernel_rfl) (by kernel_rfl) (by kernel_rfl) (fun _ _ _ h => h) (by simp [Region.wanted, yielded, Act.put, hsz]) hS0 (fun W hW => ex_getv (p := ⟨g, off + k, none⟩) rfl (.inl rfl) (by simp [go_sem, Act.put, hsz, s0, s7]) (HCL.out W hW.below)) ?_
            refine g_take (i := 21) (.bool true) rfl (by kernel_rfl) (by kernel_rfl) (by kernel_rfl) (fun _ _ _ h => h) (by simp [Region.wanted, yielded, Act.put, hsz]) hS0 (fun W hW => by simp [execOp, go_sem, Act.put, hsz, s0, s2, s7, s8, hlt, d1, d2, f2, d3, f3, d4, f4, f1]) ?_
            refine h_take (i := 22) (.bool true) rfl (by kernel_rfl) (by kernel_rfl) (by kernel_rfl) (fun _ _ _ h => h) rfl hS0 (fun W hW => by simp [execOp, go_sem, Act.put, hsz, s0, s2, s7, s8, hlt, d1, d2, f2, d3, f3, d4, f4, f1]) ?_
            refine wpAnyH_done (by kernel_rfl) ?_ _
            subst ha0
            clear hsz s0 s2 s7 s8 hS0 HM HCL
            go_simp
            go_wp2
            go_ret
            rw [HQ.out]
            exact ⟨rfl, HB.out.below⟩
          · have d4 : decide (p ≤ bp) = false := decide_eq_false c4
            have f4 := c4
            have HQ : Hid (((P.zip T).drop (k + 1)).all (fun x => goodB m x.1 x.2) = R) := by
              have hA := HA2.out
              rw [show goodB m p (bl, bp) = true by unfold goodB; simp only [d1, d2, d3, d4]; rfl] at hA
              exact hA
            clear HA2
            go_upto_region 4 with (fail)
            refine wp_abs (fun a0 => a0.tmps.size = 40 ∧ (∀ h, a0.tmps[0]'h = .slice (some ⟨g, off, none⟩) n c) ∧ (∀ h, a0.tmps[2]'h = .int .i64 m) ∧ (∀ h, a0.tmps[7]'h = .int .i64 (k : Int)) ∧ (∀ h, a0.tmps[8]'h = .pointer (some ⟨zb, 0, none⟩))) ⟨rfl, fun _ => rfl, fun _ => rfl, fun _ => rfl, fun _ => rfl⟩ ?_
            rintro a0 ⟨hsz, s0, s2, s7, s8⟩ ha0
            refine wp_region_held (S := fun W => Mm w W [(zb, 33, ivs [bl, bp])]) (by kernel_rfl) ?_
            have hS0 : Mm w u.drew [(zb, 33, ivs [bl, bp])] := HM.out.drew
            refine h_take (i := 0) (.pointer (some ⟨zb, 0, none⟩)) rfl (by kernel_rfl) (by kernel_rfl) (by kernel_rfl) (fun _ _ _ h => h) rfl hS0 (fun W hW => by simp [execOp, go_sem, Act.put, hsz, s0, s2, s7, s8, hlt, d1, d2, f2, d3, f3, d4, f4, f1]) ?_
            refine h_take (i := 1) (.int .i64 bl) rfl (by kernel_rfl) (by kernel_rfl) (by kernel_rfl) (fun _ _ _ h => h) rfl hS0 (fun W hW => ex_getv (p := ⟨zb, 0, none⟩) rfl (.inl rfl) (by simp [go_sem, Act.put, hsz]) (bv_cell hW.at0 rfl)) ?_
            refine h_take (i := 2) (.bool false) rfl (by kernel_rfl) (by kernel_rfl) (by kernel_rfl) (fun _ _ _ h => h) rfl hS0 (fun W hW => by simp [execOp, go_sem, Act.put, hsz, s0, s2, s7, s8, hlt, d1, d2, f2, d3, f3, d4, f4, f1]) ?_
            refine h_take (i := 3) (.bool false) rfl (by kernel_rfl) (by kernel_rfl) (by kernel_rfl) (fun _ _ _ h => h) rfl hS0 (fun W hW => by simp [execOp, go_sem, Act.put, hsz, s0, s2, s7, s8, hlt, d1, d2, f2, d3, f3, d4, f4, f1]) ?_
            refine g_take (i := 4) (.pointer (some ⟨zb, 0, none⟩)) rfl (by kernel_rfl) (by kernel_rfl) (by kernel_rfl) (fun _ _ _ h => h) (by simp [Region.wanted, yielded, Act.put, hsz]) hS0 (fun W hW => by simp [execOp, go_sem, Act.put, hsz, s0, s2, s7, s8, hlt, d1, d2, f2, d3, f3, d4, f4, f1]) ?_
            refine g_take (i := 5) (.int .i64 bl) rfl (by kernel_rfl) (by kernel_rfl) (by kernel_rfl) (fun _ _ _ h => h) (by simp [Region.wanted, yielded, Act.put, hsz]) hS0 (fun W hW => ex_getv (p := ⟨zb, 0, none⟩) rfl (.inl rfl) (by simp [go_sem, Act.put, hsz, s0, s7]) (bv_cell hW.at0 rfl)) ?_
            refine g_take (i := 6) (.int .i64 m) rfl (by kernel_rfl) (by kernel_rfl) (by kernel_rfl) (fun _ _ _ h => h) (by simp [Region.wanted, yielded, Act.put, hsz]) hS0 (fun W hW => by simp [execOp, go_sem, Act.put, hsz, s0, s2, s7, s8, hlt, d1, d2, f2, d3, f3, d4, f4, f1]) ?_
            refine g_take (i := 7) (.bool false) rfl (by kernel_rfl) (by kernel_rfl) (by kernel_rfl) (fun _ _ _ h => h) (by simp [Region.wanted, yielded, Act.put, hsz]) hS0 (fun W hW => by simp [execOp, go_sem, Act.put, hsz, s0, s2, s7, s8, hlt, d1, d2, f2, d3, f3, d4, f4, f1]) ?_
            refine h_take (i := 8) (.bool false) rfl (by kernel_rfl) (by kernel_rfl) (by kernel_rfl) (fun _ _ _ h => h) rfl hS0 (fun W hW => by simp [execOp, go_sem, Act.put, hsz, s0, s2, s7, s8, hlt, d1, d2, f2, d3, f3, d4, f4, f1]) ?_
            refine h_take (i := 9) (.bool false) rfl (by kernel_rfl) (by kernel_rfl) (by kernel_rfl) (fun _ _ _ h => h) rfl hS0 (fun W hW => by simp [execOp, go_sem, Act.put, hsz, s0, s2, s7, s8, hlt, d1, d2, f2, d3, f3, d4, f4, f1]) ?_
            refine g_take (i := 10) (.pointer (some ⟨zb, 1, none⟩)) rfl (by kernel_rfl) (by kernel_rfl) (by kernel_rfl) (fun _ _ _ h => h) (by simp [Region.wanted, yielded, Act.put, hsz]) hS0 (fun W hW => by simp [execOp, go_sem, Act.put, hsz, s0, s2, s7, s8, hlt, d1, d2, f2, d3, f3, d4, f4, f1]) ?_
            refine g_take (i := 11) (.int .i64 bp) rfl (by kernel_rfl) (by kernel_rfl) (by kernel_rfl) (fun _ _ _ h => h) (by simp [Region.wanted, yielded, Act.put, hsz]) hS0 (fun W hW => ex_getv (p := ⟨zb, 1, none⟩) rfl (.inl rfl) (by simp [go_sem, Act.put, hsz, s0, s7]) (bv_cell hW.at0 rfl)) ?_
            refine g_take (i := 12) (.bool false) rfl (by kernel_rfl) (by kernel_rfl) (by kernel_rfl) (fun _ _ _ h => h) (by simp [Region.wanted, yielded, Act.put, hsz]) hS0 (fun W hW => by simp [execOp, go_sem, Act.put, hsz, s0, s2, s7, s8, hlt, d1, d2, f2, d3, f3, d4, f4, f1]) ?_
            refine h_take (i := 13) (.bool false) rfl (by kernel_rfl) (by kernel_rfl) (by kernel_rfl) (fun _ _ _ h => h) rfl hS0 (fun W hW => by simp [execOp, go_sem, Act.put, hsz, s0, s2, s7, s8, hlt, d1, d2, f2, d3, f3, d4, f4, f1]) ?_
            refine h_take (i := 14) (.bool false) rfl (by kernel_rfl) (by kernel_rfl) (by kernel_rfl) (fun _ _ _ h => h) rfl hS0 (fun W hW => by simp [execOp, go_sem, Act.put, hsz, s0, s2, s7, s8, hlt, d1, d2, f2, d3, f3, d4, f4, f1]) ?_
            refine g_take (i := 15) (.pointer (some ⟨zb, 1, none⟩)) rfl (by kernel_rfl) (by kernel_rfl) (by kernel_rfl) (fun _ _ _ h => h) (by simp [Region.wanted, yielded, Act.put, hsz]) hS0 (fun W hW => by simp [execOp, go_sem, Act.put, hsz, s0, s2, s7, s8, hlt, d1, d2, f2, d3, f3, d4, f4, f1]) ?_
            refine g_take (i := 16) (.int .i64 bp) rfl (by kernel_rfl) (by kernel_rfl) (by kernel_rfl) (fun _ _ _ h => h) (by simp [Region.wanted, yielded, Act.put, hsz]) hS0 (fun W hW => ex_getv (p := ⟨zb, 1, none⟩) rfl (.inl rfl) (by simp [go_sem, Act.put, hsz, s0, s7]) (bv_cell hW.at0 rfl)) ?_
            refine g_take (i := 17) (.slice (some ⟨g, off, none⟩) n c) rfl (by kernel_rfl) (by kernel_rfl) (by kernel_rfl) (fun _ _ _ h => h) (by simp [Region.wanted, yielded, Act.put, hsz]) hS0 (fun W hW => by simp [execOp, go_sem, Act.put, hsz, s0, s2, s7, s8, hlt, d1, d2, f2, d3, f3, d4, f4, f1]) ?_
            refine g_take (i := 18) (.int .i64 (k : Int)) rfl (by kernel_rfl) (by kernel_rfl) (by kernel_rfl) (fun _ _ _ h => h) (by simp [Region.wanted, yielded, Act.put, hsz]) hS0 (fun W hW => by simp [execOp, go_sem, Act.put, hsz, s0, s2, s7, s8, hlt, d1, d2, f2, d3, f3, d4, f4, f1]) ?_
            refine g_take (i := 19) (.pointer (some ⟨g, off + k, none⟩)) rfl (by kernel_rfl) (by kernel_rfl) (by kernel_rfl) (fun _ _ _ h => h) (by simp [Region.wanted, yielded, Act.put, hsz]) hS0 (fun W hW => by simp [execOp, go_sem, Act.put, hsz, s0, s2, s7, s8, hlt, d1, d2, f2, d3, f3, d4, f4, f1]) ?_
            refine g_take (i := 20) (.int .i64 p) rfl (by kernel_rfl) (by kernel_rfl) (by kernel_rfl) (fun _ _ _ h => h) (by simp [Region.wanted, yielded, Act.put, hsz]) hS0 (fun W hW => ex_getv (p := ⟨g, off + k, none⟩) rfl (.inl rfl) (by simp [go_sem, Act.put, hsz, s0, s7]) (HCL.out W hW.below)) ?_
            refine g_take (i := 21) (.bool false) rfl (by kernel_rfl) (by kernel_rfl) (by kernel_rfl) (fun _ _ _ h => h) (by simp [Region.wanted, yielded, Act.put, hsz]) hS0 (fun W hW => by simp [execOp, go_sem, Act.put, hsz, s0, s2, s7, s8, hlt, d1, d2, f2, d3, f3, d4, f4, f1]) ?_
            refine h_take (i := 22) (.bool false) rfl (by kernel_rfl) (by kernel_rfl) (by kernel_rfl) (fun _ _ _ h => h) rfl hS0 (fun W hW => by simp [execOp, go_sem, Act.put, hsz, s0, s2, s7, s8, hlt, d1, d2, f2, d3, f3, d4, f4, f1]) ?_
            refine wpAnyH_done (by kernel_rfl) ?_ _
            subst ha0
            clear hsz s0 s2 s7 s8 hS0 HM HCL
            go_simp
            go_wp2
            go_roundw
            case rel => exact ⟨k + 1, by omega, by go_num, HB.out, HQ.out⟩
            case measure => simp [intOf]; omega
    -- AREB END
end Go.Proofs.Ytcenaleladjakab.budget
