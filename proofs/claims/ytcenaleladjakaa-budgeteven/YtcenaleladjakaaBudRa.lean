/- budget, the document's answer: PlanRight. -/
import Derived.Test.YtcenaleladjakaaBudZ
namespace Go.Proofs.Ytcenaleladjakaa.budget
open Go Go.RowKit
set_option linter.unusedVariables false
set_option linter.unusedSimpArgs false
set_option maxRecDepth 100000

theorem ex_ldR {o : Oper} {a : Act} {W : World} {t : TypeId} {x : Operand} (ho : o.op = .load t x) {g off n : Nat} (hT : Row t n) (hx : a.eval x = .pointer (some ⟨g, off, none⟩)) {r : List Value} (hr : W.rangeAt g off r) (hl : r.length = n) :
    (execOp a.eval o).run Try.prog W = .ok (.value (agv r)) W := by
  obtain ⟨d, h1, h2, h3⟩ := hT.ex
  unfold execOp
  simp only [ho, hx, Sem.run_bind, run_loadAt_mid W g off t r d hr h1 h2 (by rw [h3, hl]), Result.andThen_ok, Sem.run_pure]
  rfl
theorem goodB_two {m p : Int} {b : Bi} : goodB m p b = ((decide (0 ≤ b.1) && decide (b.1 ≤ m - 1)) && (decide (0 ≤ b.2) && decide (b.2 ≤ p - 1))) := by
  rw [Bool.eq_iff_iff, goodB_iff]
  simp
  omega
theorem not_apart {E : List En} {i k : Nat} {x y : En} (hk : k < i) (hx : E[i]? = some x) (hy : E[k]? = some y) (hc : cl x y = true) : dcl [] E = true := by
  cases q : dcl [] E with
  | true => rfl
  | false =>
    have := (dcl_iff E [] List.Pairwise.nil).1 q
    rw [List.nil_append] at this
    have h2 := List.pairwise_iff_getElem.1 this k i (List.getElem?_eq_some_iff.1 hy).1 (List.getElem?_eq_some_iff.1 hx).1 hk
    rw [(List.getElem?_eq_some_iff.1 hx).2, (List.getElem?_eq_some_iff.1 hy).2, cl_comm, hc] at h2
    exact absurd h2 (by simp)
theorem apart_next {E : List En} {i : Nat} {x : En} (h : Apart (E.take i)) (hx : E[i]? = some x) (hc : ∀ j y, j < i → E[j]? = some y → cl x y = false) : Apart (E.take (i + 1)) := by
  have hi := (List.getElem?_eq_some_iff.1 hx).1
  rw [List.take_succ_eq_append_getElem hi, (List.getElem?_eq_some_iff.1 hx).2]
  unfold Apart
  rw [List.pairwise_append]
  refine ⟨h, by simp, fun y hy z hz => ?_⟩
  rw [List.mem_singleton.1 hz, cl_comm]
  obtain ⟨j, hj, rfl⟩ := List.mem_iff_getElem.1 hy
  rw [List.getElem_take]
  have hj2 : j < i := by simp at hj; omega
  exact hc j _ hj2 (List.getElem?_eq_getElem _)
set_option maxHeartbeats 8000000 in
theorem rightR_mid (v pv : Value) (P : List Int) (T : List Bi) (M : Nat) (w : World) (hv : Ris w v P) (hp : Rbs w pv T) (hchk : chk P (M : Int) = 0) (hl : T.length = P.length) : Calls Try.prog 15 #[v, pv, .int .i64 (M : Int)] w fun e u => e = .returned (.int .i64 (if areB P T (M : Int) = true then (if dcl [] (ensI P T) = true then 13 else 0) else 1)) ∧ Below w.heap.size w u := by
  have HTK : Hid (Calls Try.prog 23 #[v, .int .i64 (M : Int)] w fun e w' => e = .returned (.int .i64 0) ∧ w = w') := by have := tasks_any v P (M : Int) w hv; rw [hchk] at this; exact this
  obtain ⟨hM1, hM8, h64, hP⟩ := chk_ok hchk
  obtain ⟨a, c, rfl, hlc, hcm⟩ := hv.form
  obtain ⟨a2, c2, rfl, hlc2, hcm2⟩ := hp.form
  rw [hl] at hp hlc2 ⊢
  have HC : Hid (∀ k, k < P.length → ∃ (p : Nat) (b : Bi), 1 ≤ p ∧ p ≤ 32 ∧ (P.zip T)[k]? = some ((p : Int), b) ∧ (∃ g off, a = some ⟨g, off, none⟩ ∧ ∀ u, Below w.heap.size w u → u.cell? ⟨g, off + k, none⟩ = some (.int .i64 (p : Int))) ∧ (∃ g off, a2 = some ⟨g, off, none⟩ ∧ ∀ u, Below w.heap.size w u → u.rangeAt g (off + k * 2) (ivs [b.1, b.2]))) := fun k hk => by
    have e1 : P[k]? = some ((pN P k : Nat) : Int) := by rw [← (hP.at hk).2, getD_at hk]; exact List.getElem?_eq_getElem hk
    have e2 := List.getElem?_eq_getElem (l := T) (i := k) (by omega)
    have q := okp_le (hP.at hk).1
    refine ⟨_, _, q.1, q.2, zip_at e1 e2, ?_, ?_⟩
    · obtain ⟨g, off, h1, h2⟩ := hv.at k _ e1
      refine ⟨g, off, h1, fun u hb => ?_⟩
      obtain ⟨g', off', h1', h2'⟩ := (hv.below hb).at k _ e1
      rw [h1] at h1'
      injection h1' with h1'
      injection h1' with q1 q2 _
      subst q1 q2
      exact h2'
    · obtain ⟨g, off, h1, h2, h3⟩ := hp.at k _ e2
      refine ⟨g, off, h1, fun u hb => ?_⟩
      obtain ⟨g', off', h1', h2', h3'⟩ := (hp.below hb).at k _ e2
      rw [h1] at h1'
      injection h1' with h1'
      injection h1' with q1 q2 _
      subst q1 q2
      exact two_range h2' h3'
  have HD : Hid (areB P T (M : Int) = true → ∀ k, k < P.length → ∃ p ln ph : Nat, 1 ≤ p ∧ p ≤ 32 ∧ ph ≤ 1000 ∧ (ensI P T)[k]? = some (p, ln, ph) ∧ (∃ g off, a = some ⟨g, off, none⟩ ∧ ∀ u, Below w.heap.size w u → u.cell? ⟨g, off + k, none⟩ = some (.int .i64 (p : Int))) ∧ (∃ g off, a2 = some ⟨g, off, none⟩ ∧ ∀ u, Below w.heap.size w u → u.rangeAt g (off + k * 2) (ivs [(ln : Int), (ph : Int)]))) := fun hA k hk => by
    obtain ⟨⟨p, ln, ph⟩, h1, h2, h3, h4⟩ := pl_cells hv hp hl hP hA k hk
    have q := okp_le h2.ok
    have q2 : ph < p := h2.ph
    exact ⟨p, ln, ph, q.1, q.2, by have := q.2; omega, h1, h3, h4⟩
  have HZ : Hid ((P.zip T).length = P.length) := by show _ = _; rw [List.length_zip]; omega
  have HEL : Hid ((ensI P T).length = P.length) := by show _ = _; unfold ensI; rw [List.length_map, List.length_zip]; omega
  have HP : Hid (((P.zip T).drop 0).all (fun x => goodB (M : Int) x.1 x.2) = areB P T (M : Int)) := rfl
  obtain ⟨E, hE⟩ : ∃ E, ensI P T = E := ⟨_, rfl⟩
  rw [hE] at HD HEL ⊢
  obtain ⟨R, hR⟩ : ∃ R, areB P T (M : Int) = R := ⟨_, rfl⟩
  rw [hR] at HP HD ⊢
  obtain ⟨n, hn⟩ : ∃ n, P.length = n := ⟨_, rfl⟩
  rw [hn] at HTK HC HD HZ HEL hlc hlc2 h64 ⊢
  obtain ⟨res, hres⟩ : ∃ res : Int, (if R = true then (if dcl [] E = true then (13 : Int) else 0) else 1) = res := ⟨_, rfl⟩
  have HRes : Hid ((if R = true then (if dcl [] E = true then (13 : Int) else 0) else 1) = res) := hres
  rw [hres]
  unfold maxLen at hcm hcm2
  have hM1' : 1 ≤ M := by omega
  have hM8' : M ≤ 8 := by omega
  have HM : Hid (Mm w w []) := Mm.nil w
  have HBT : Hid (∀ (x lo hi : Int) (u : World), Calls Try.prog 27 #[.int .i64 x, .int .i64 lo, .int .i64 hi] u fun e w' => e = .returned (.bool (decide (lo ≤ x) && decide (x ≤ hi))) ∧ u = w') := between_any
  clear hv hp hl hn hR hE hchk hP hres hM1 hM8
  go_enter Try.func15, Try.ntmps15
  go_wp2_with fail
  refine (HTK.out).mono ?_
  rintro e uc ⟨rfl, rfl⟩
  clear HTK
  go_wp2
  go_loopw [8, 9, 25] (fun _ _ i wr => ∃ k : Nat, k ≤ n ∧ i = .int .i64 (k : Int) ∧ Hid (Mm w wr [] ∧ ((P.zip T).drop k).all (fun x => goodB (M : Int) x.1 x.2) = R)) (fun _ _ i _ => n - (intOf i).toNat)
  case atStart => exact ⟨0, Nat.zero_le _, rfl, HM.out, HP.out⟩
  case round =>
    clear HM HP
    obtain ⟨k, hk, rfl, HA⟩ := hrel
    by_cases hlt : ¬ k < n
    · have hRt : R = true := by
        have := HA.out.2
        rw [List.drop_eq_nil_of_le (by have := HZ.out; omega)] at this
        exact this.symm
      have HD2 := HD.out hRt
      have HD3 : Hid (∀ k, k < n → ∃ p ln ph : Nat, 1 ≤ p ∧ p ≤ 32 ∧ ph ≤ 1000 ∧ E[k]? = some (p, ln, ph) ∧ (∃ g off, a = some ⟨g, off, none⟩ ∧ ∀ u, Below w.heap.size w u → u.cell? ⟨g, off + k, none⟩ = some (.int .i64 (p : Int))) ∧ (∃ g off, a2 = some ⟨g, off, none⟩ ∧ ∀ u, Below w.heap.size w u → u.rangeAt g (off + k * 2) (ivs [(ln : Int), (ph : Int)]))) := HD2
      have HR0 : Hid (Apart E → res = 0) := fun h => by
        have q := (dcl_iff E [] List.Pairwise.nil).2 (by simpa using h)
        rw [← HRes.out, if_pos hRt, q]
        rfl
      have HR13 : Hid (dcl [] E = true → res = 13) := fun q => by
        rw [← HRes.out, if_pos hRt, q]
        rfl
      have HB0 : Hid (Below w.heap.size w wr ∧ Apart (E.take 0)) := ⟨HA.out.1.below, by simp [Apart]⟩
      clear HA HC HD HD2 HRes HBT HZ hRt
      go_wp2
      go_loopw [10, 11, 50] (fun _ _ iv wr => ∃ i : Nat, i ≤ n ∧ iv = .int .i64 (i : Int) ∧ Hid (Below w.heap.size w wr ∧ Apart (E.take i))) (fun _ _ iv _ => n - (intOf iv).toNat)
      case atStart => exact ⟨0, Nat.zero_le _, rfl, HB0.out⟩
      case round =>
        clear HB0
        obtain ⟨i, hi, rfl, HA⟩ := hrel
        by_cases hin : ¬ i < n
        · have HQ : Hid (res = 0 ∧ Below w.heap.size w wr) := ⟨HR0.out (by have := HA.out.2; rw [List.take_of_length_le (by have := HEL.out; omega)] at this; exact this), HA.out.1⟩
          clear HA HD3 HR0 HR13 HEL
          go_wp2
          go_ret
          rw [HQ.out.1]
          exact ⟨rfl, HQ.out.2⟩
        have hin : i < n := by omega
        obtain ⟨p, ln, ph, hp1, hp2, hph, hx, ⟨g, off, rfl, hc⟩, ⟨g2, off2, rfl, hr⟩⟩ := HD3.out i hin
        have HX : Hid (E[i]? = some (p, ln, ph)) := hx
        have HA2 : Hid (Below w.heap.size w wr ∧ ∀ j y, j < 0 → E[j]? = some y → cl (p, ln, ph) y = false) := ⟨HA.out.1, fun j y h => by omega⟩
        have HAp : Hid (Apart (E.take i)) := HA.out.2
        have HCI : Hid (∀ u, Below w.heap.size w u → u.cell? ⟨g, off + i, none⟩ = some (.int .i64 (p : Int)) ∧ u.rangeAt g2 (off2 + i * 2) (ivs [(ln : Int), (ph : Int)])) := fun u hb => ⟨hc u hb, hr u hb⟩
        clear HA hx hc hr
        go_wp2
        go_loopw [11, 54] (fun _ kv wr => ∃ k : Nat, k ≤ i ∧ kv = .int .i64 (k : Int) ∧ Hid (Below w.heap.size w wr ∧ ∀ j y, j < k → E[j]? = some y → cl (p, ln, ph) y = false)) (fun _ kv _ => i - (intOf kv).toNat)
        case atStart => exact ⟨0, Nat.zero_le _, rfl, HA2.out⟩
        case round =>
          clear HA2
          obtain ⟨k, hk, rfl, HA⟩ := hrel
          by_cases hki : ¬ k < i
          · have HQ : Hid (Below w.heap.size w wr ∧ Apart (E.take (i + 1))) := ⟨HA.out.1, apart_next HAp.out HX.out (fun j y hj => HA.out.2 j y (by omega))⟩
            clear HA HD3 HR0 HR13 HCI HX HAp
            go_wp2
            go_roundw
            case rel => exact ⟨i + 1, by omega, by go_num, HQ.out⟩
            case measure => simp [intOf]; omega
          have hki : k < i := by omega
          have hkn : k < n := by omega
          obtain ⟨p', ln', ph', hp1', hp2', hph', hx', ⟨g', off', e', hc'⟩, ⟨g2', off2', e2', hr'⟩⟩ := HD3.out k hkn
          injection e' with e'
          injection e' with z1 z2 _
          subst z1 z2
          injection e2' with e2'
          injection e2' with z3 z4 _
          subst z3 z4
          have HCK : Hid (∀ u, Below w.heap.size w u → u.cell? ⟨g, off + k, none⟩ = some (.int .i64 (p' : Int)) ∧ u.rangeAt g2 (off2 + k * 2) (ivs [(ln' : Int), (ph' : Int)])) := fun u hb => ⟨hc' u hb, hr' u hb⟩
          have HCla : Hid (∀ u, Calls Try.prog 24 #[.int .i64 (p : Int), agv (ivs [(ln : Int), (ph : Int)]), .int .i64 (p' : Int), agv (ivs [(ln' : Int), (ph' : Int)])] u fun e u' => e = .returned (.bool (cl (p, ln, ph) (p', ln', ph'))) ∧ Below u.heap.size u u') := fun u => clash_any p p' ln ph ln' ph' u hp1 hp2 hp1' hp2' hph hph'
          have HY : Hid (cl (p, ln, ph) (p', ln', ph') = true → res = 13) := fun q => HR13.out (not_apart hki HX.out hx' q)
          have HNo : Hid (cl (p, ln, ph) (p', ln', ph') = false → ∀ j y, j < k + 1 → E[j]? = some y → cl (p, ln, ph) y = false) := fun q j y hj hy => by
            by_cases e : j = k
            · subst e
              rw [hx'] at hy
              injection hy with hy
              rw [← hy]
              exact q
            · exact HA.out.2 j y (by omega) hy
          have HB : Hid (Below w.heap.size w wr) := HA.out.1
          obtain ⟨cb, hcb⟩ : ∃ cb, cl (p, ln, ph) (p', ln', ph') = cb := ⟨_, rfl⟩
          rw [hcb] at HCla HY HNo
          clear HA hx' hc' hr' hcb
          go_upto_region 18 with (fail)
          refine wp_abs (fun a0 => a0.tmps.size = 76 ∧ (∀ h, a0.tmps[0]'h = .slice (some ⟨g, off, none⟩) n c) ∧ (∀ h, a0.tmps[1]'h = .slice (some ⟨g2, off2, none⟩) n c2) ∧ (∀ h, a0.tmps[10]'h = .int .i64 (i : Int)) ∧ (∀ h, a0.tmps[11]'h = .int .i64 (k : Int))) ⟨rfl, fun _ => rfl, fun _ => rfl, fun _ => rfl, fun _ => rfl⟩ ?_
          rintro a0 ⟨hsz, s0, s1, s10, s11⟩ ha0
          refine wp_region_held (S := fun W => Below w.heap.size w W) (by kernel_rfl) ?_
          obtain ⟨ud, hud⟩ : ∃ ud, wr.drew = ud := ⟨_, rfl⟩
          have hS0 : Below w.heap.size w ud := by rw [← hud]; exact HB.out.drew
          show wpAnyH _ _ _ _ _ _ _ _ wr.drew
          rw [hud]
          refine h_take (i := 0) (.slice (some ⟨g, off, none⟩) n c) rfl (by kernel_rfl) (by kernel_rfl) (by kernel_rfl) (fun _ _ _ h => h) rfl hS0 (fun W hW => by simp [execOp, go_sem, Act.put, hsz, s0, s1, s10, s11, hin, hkn]) ?_
          refine h_take (i := 1) (.int .i64 (i : Int)) rfl (by kernel_rfl) (by kernel_rfl) (by kernel_rfl) (fun _ _ _ h => h) rfl hS0 (fun W hW => by simp [execOp, go_sem, Act.put, hsz, s0, s1, s10, s11, hin, hkn]) ?_
          refine h_take (i := 2) (.pointer (some ⟨g, off + i, none⟩)) rfl (by kernel_rfl) (by kernel_rfl) (by kernel_rfl) (fun _ _ _ h => h) rfl hS0 (fun W hW => by simp [execOp, go_sem, Act.put, hsz, s0, s1, s10, s11, hin, hkn]) ?_
          refine h_take (i := 3) (.int .i64 (p : Int)) rfl (by kernel_rfl) (by kernel_rfl) (by kernel_rfl) (fun _ _ _ h => h) rfl hS0 (fun W hW => ex_getv (p := ⟨g, off + i, none⟩) rfl (.inl rfl) (by simp [go_sem, Act.put, hsz]) (HCI.out W hW).1) ?_
          refine h_take (i := 4) (.slice (some ⟨g2, off2, none⟩) n c2) rfl (by kernel_rfl) (by kernel_rfl) (by kernel_rfl) (fun _ _ _ h => h) rfl hS0 (fun W hW => by simp [execOp, go_sem, Act.put, hsz, s0, s1, s10, s11, hin, hkn]) ?_
          refine h_take (i := 5) (.int .i64 (i : Int)) rfl (by kernel_rfl) (by kernel_rfl) (by kernel_rfl) (fun _ _ _ h => h) rfl hS0 (fun W hW => by simp [execOp, go_sem, Act.put, hsz, s0, s1, s10, s11, hin, hkn]) ?_
          refine h_take (i := 6) (.pointer (some ⟨g2, off2 + i * 2, none⟩)) rfl (by kernel_rfl) (by kernel_rfl) (by kernel_rfl) (fun _ _ _ h => h) rfl hS0 (fun W hW => by simp [execOp, go_sem, Act.put, hsz, s0, s1, s10, s11, hin, hkn]) ?_
          refine h_take (i := 7) (agv (ivs [(ln : Int), (ph : Int)])) rfl (by kernel_rfl) (by kernel_rfl) (by kernel_rfl) (fun _ _ _ h => h) rfl hS0 (fun W hW => ex_ldR rfl row_berth (by simp [go_sem, Act.put, hsz]) (HCI.out W hW).2 rfl) ?_
          refine h_take (i := 8) (.slice (some ⟨g, off, none⟩) n c) rfl (by kernel_rfl) (by kernel_rfl) (by kernel_rfl) (fun _ _ _ h => h) rfl hS0 (fun W hW => by simp [execOp, go_sem, Act.put, hsz, s0, s1, s10, s11, hin, hkn]) ?_
          refine h_take (i := 9) (.int .i64 (k : Int)) rfl (by kernel_rfl) (by kernel_rfl) (by kernel_rfl) (fun _ _ _ h => h) rfl hS0 (fun W hW => by simp [execOp, go_sem, Act.put, hsz, s0, s1, s10, s11, hin, hkn]) ?_
          refine h_take (i := 10) (.pointer (some ⟨g, off + k, none⟩)) rfl (by kernel_rfl) (by kernel_rfl) (by kernel_rfl) (fun _ _ _ h => h) rfl hS0 (fun W hW => by simp [execOp, go_sem, Act.put, hsz, s0, s1, s10, s11, hin, hkn]) ?_
          refine h_take (i := 11) (.int .i64 (p' : Int)) rfl (by kernel_rfl) (by kernel_rfl) (by kernel_rfl) (fun _ _ _ h => h) rfl hS0 (fun W hW => ex_getv (p := ⟨g, off + k, none⟩) rfl (.inl rfl) (by simp [go_sem, Act.put, hsz]) (HCK.out W hW).1) ?_
          refine h_take (i := 12) (.slice (some ⟨g2, off2, none⟩) n c2) rfl (by kernel_rfl) (by kernel_rfl) (by kernel_rfl) (fun _ _ _ h => h) rfl hS0 (fun W hW => by simp [execOp, go_sem, Act.put, hsz, s0, s1, s10, s11, hin, hkn]) ?_
          refine h_take (i := 13) (.int .i64 (k : Int)) rfl (by kernel_rfl) (by kernel_rfl) (by kernel_rfl) (fun _ _ _ h => h) rfl hS0 (fun W hW => by simp [execOp, go_sem, Act.put, hsz, s0, s1, s10, s11, hin, hkn]) ?_
          refine h_take (i := 14) (.pointer (some ⟨g2, off2 + k * 2, none⟩)) rfl (by kernel_rfl) (by kernel_rfl) (by kernel_rfl) (fun _ _ _ h => h) rfl hS0 (fun W hW => by simp [execOp, go_sem, Act.put, hsz, s0, s1, s10, s11, hin, hkn]) ?_
          refine h_take (i := 15) (agv (ivs [(ln' : Int), (ph' : Int)])) rfl (by kernel_rfl) (by kernel_rfl) (by kernel_rfl) (fun _ _ _ h => h) rfl hS0 (fun W hW => ex_ldR rfl row_berth (by simp [go_sem, Act.put, hsz]) (HCK.out W hW).2 rfl) ?_
          refine h_call (i := 16) 24 #[.int .i64 (p : Int), agv (ivs [(ln : Int), (ph : Int)]), .int .i64 (p' : Int), agv (ivs [(ln' : Int), (ph' : Int)])] rfl (by kernel_rfl) rfl (by simp [execOp, go_sem, Act.put, hsz, s0, s1, s10, s11, hin, hkn]) ((HCla.out _).mono ?_)
          rintro e u6 ⟨rfl, hb6⟩
          have hS6 : Below w.heap.size w u6 := bsq hS0 hb6
          refine ⟨_, rfl, hS6, ?_⟩
          refine wpAnyH_done (by kernel_rfl) ?_ _
          subst ha0
          have HB6 : Hid (Below w.heap.size w u6) := hS6
          clear hsz s0 s1 s10 s11 hS0 hS6 hb6 hud HB HCla HCK
          go_simp
          cases cb with
          | true =>
            have HQ : Hid (res = 13) := HY.out rfl
            clear HY HNo HD3 HR0 HR13 HCI HX HAp
            go_wp2
            go_ret
            rw [HQ.out]
            exact ⟨rfl, HB6.out⟩
          | false =>
            have HQ : Hid (∀ j y, j < k + 1 → E[j]? = some y → cl (p, ln, ph) y = false) := HNo.out rfl
            clear HY HNo HD3 HR0 HR13 HCI HX HAp
            go_wp2
            go_roundw
            case rel => exact ⟨k + 1, by omega, by go_num, HB6.out, HQ.out⟩
            case measure => simp [intOf]; omega
    have hlt : k < n := by omega
    obtain ⟨p, ⟨bl, bp⟩, hp1, hp2, h1, ⟨g, off, rfl, hc⟩, ⟨g2, off2, rfl, hr⟩⟩ := HC.out k hlt
    have HA2 : Hid ((goodB (M : Int) (p : Int) (bl, bp) && ((P.zip T).drop (k + 1)).all (fun x => goodB (M : Int) x.1 x.2)) = R) := by have := HA.out.2; rw [all_at h1] at this; exact this
    have hM := HA.out.1
    have HRG : Hid (wr.rangeAt g2 (off2 + k * 2) (ivs [bl, bp])) := hr wr hM.below
    have HCL : Hid (∀ u, Below w.heap.size w u → u.cell? ⟨g, off + k, none⟩ = some (.int .i64 (p : Int))) := hc
    have HV : Hid (Vs (ivs [bl, bp]) 2) := two_vs _ _
    have HV2 : Hid ((ivs [0, 0]).length = 2) := rfl
    obtain ⟨M', hM'⟩ : ∃ M', M - 1 = M' := ⟨_, rfl⟩
    obtain ⟨p', hp'⟩ : ∃ p', p - 1 = p' := ⟨_, rfl⟩
    have t1 : (M : Int) - 1 = (M' : Int) := by omega
    have t2 : (p : Int) - 1 = (p' : Int) := by omega
    have HB1 : Hid (∀ u, Calls Try.prog 27 #[.int .i64 bl, .int .i64 0, .int .i64 (M' : Int)] u fun e w' => e = .returned (.bool (decide (0 ≤ bl) && decide (bl ≤ (M' : Int)))) ∧ u = w') := HBT.out bl 0 M'
    have HB2 : Hid (∀ u, Calls Try.prog 27 #[.int .i64 bp, .int .i64 0, .int .i64 (p' : Int)] u fun e w' => e = .returned (.bool (decide (0 ≤ bp) && decide (bp ≤ (p' : Int)))) ∧ u = w') := HBT.out bp 0 p'
    have HG : Hid (goodB (M : Int) (p : Int) (bl, bp) = ((decide (0 ≤ bl) && decide (bl ≤ (M' : Int))) && (decide (0 ≤ bp) && decide (bp ≤ (p' : Int))))) := by show _ = _; rw [goodB_two, t1, t2]
    obtain ⟨g1, hg1⟩ : ∃ g1, (decide (0 ≤ bl) && decide (bl ≤ (M' : Int))) = g1 := ⟨_, rfl⟩
    obtain ⟨gg, hgg⟩ : ∃ gg, (decide (0 ≤ bp) && decide (bp ≤ (p' : Int))) = gg := ⟨_, rfl⟩
    rw [hg1] at HB1 HG
    rw [hgg] at HB2 HG
    have HR1 : Hid (R = false → res = 1) := fun q => by rw [← HRes.out, q]; rfl
    clear HA HC hc hr h1 HD HRes HBT HZ HEL hg1 hgg
    have w1 : IntKind.i64.wrap (M' : Int) = (M' : Int) := by rw [IntKind.wrap_i64]; omega
    have w2 : IntKind.i64.wrap (p' : Int) = (p' : Int) := by rw [IntKind.wrap_i64]; omega
    repeat' (first | (go_big_may; first | (refine v_ldR rfl rfl row_berth rfl HRG.out rfl ?_) | (refine v_alloc rfl zer_berth rfl ?_; intro u zb hN; replace hM := hM.new hN; clear hN) | (refine v_fill rfl rfl row_berth rfl rfl hM.at0 HV.out HV2.out ?_; intro u hv hc; replace hM := hM.put0 hc hv; clear hv hc)) | go_values | go_skip | go_guarded | go_step | go_upon | (simp only [Int.not_lt, Int.not_le] at *; go_simp))
    have HM : Hid (Mm w u [(zb, 29, ivs [bl, bp])]) := hM
    clear hM HRG HV HV2
    cases g1 with
    | false =>
      have HQ : Hid (res = 1) := HR1.out (by have := HA2.out; rw [HG.out] at this; exact this.symm)
      clear HA2 HG HR1
      go_upto_region 9 with (fail)
      refine wp_abs (fun a0 => a0.tmps.size = 76 ∧ (∀ h, a0.tmps[0]'h = .slice (some ⟨g, off, none⟩) n c) ∧ (∀ h, a0.tmps[2]'h = .int .i64 (M : Int)) ∧ (∀ h, a0.tmps[8]'h = .int .i64 (k : Int)) ∧ (∀ h, a0.tmps[9]'h = .pointer (some ⟨zb, 0, none⟩))) ⟨rfl, fun _ => rfl, fun _ => rfl, fun _ => rfl, fun _ => rfl⟩ ?_
      rintro a0 ⟨hsz, s0, s2, s8, s9⟩ ha0
      refine wp_region_held (S := fun W => Mm w W [(zb, 29, ivs [bl, bp])]) (by kernel_rfl) ?_
      obtain ⟨ud, hud⟩ : ∃ ud, u.drew = ud := ⟨_, rfl⟩
      have hS0 : Mm w ud [(zb, 29, ivs [bl, bp])] := by rw [← hud]; exact HM.out.drew
      show wpAnyH _ _ _ _ _ _ _ _ u.drew
      rw [hud]
      refine h_take (i := 0) (.pointer (some ⟨zb, 0, none⟩)) rfl (by kernel_rfl) (by kernel_rfl) (by kernel_rfl) (fun _ _ _ h => h) rfl hS0 (fun W hW => by simp [execOp, go_sem, Act.put, hsz, s0, s2, s8, s9, hlt, t1, t2, w1, w2]) ?_
      refine h_take (i := 1) (.int .i64 bl) rfl (by kernel_rfl) (by kernel_rfl) (by kernel_rfl) (fun _ _ _ h => h) rfl hS0 (fun W hW => ex_getv (p := ⟨zb, 0, none⟩) rfl (.inl rfl) (by simp [go_sem, Act.put, hsz]) (bv_cell hW.at0 rfl)) ?_
      refine h_take (i := 2) (.int .i64 (M : Int)) rfl (by kernel_rfl) (by kernel_rfl) (by kernel_rfl) (fun _ _ _ h => h) rfl hS0 (fun W hW => by simp [execOp, go_sem, Act.put, hsz, s0, s2, s8, s9, hlt, t1, t2, w1, w2]) ?_
      refine h_take (i := 3) (.int .i64 (M' : Int)) rfl (by kernel_rfl) (by kernel_rfl) (by kernel_rfl) (fun _ _ _ h => h) rfl hS0 (fun W hW => by simp [execOp, go_sem, Act.put, hsz, s0, s2, s8, s9, hlt, t1, t2, w1, w2]) ?_
      refine h_call (i := 4) 27 #[.int .i64 bl, .int .i64 0, .int .i64 (M' : Int)] rfl (by kernel_rfl) rfl (by simp [execOp, go_sem, Act.put, hsz, s0, s2, s8, s9, hlt, t1, t2, w1, w2]) ((HB1.out _).mono ?_)
      rintro e ux ⟨rfl, rfl⟩
      refine ⟨_, rfl, hS0, ?_⟩
      refine h_take (i := 5) (.bool true) rfl (by kernel_rfl) (by kernel_rfl) (by kernel_rfl) (fun _ _ _ h => h) rfl hS0 (fun W hW => by simp [execOp, go_sem, Act.put, hsz, s0, s2, s8, s9, hlt, t1, t2, w1, w2]) ?_
      refine h_take (i := 6) (.bool true) rfl (by kernel_rfl) (by kernel_rfl) (by kernel_rfl) (fun _ _ _ h => h) rfl hS0 (fun W hW => by simp [execOp, go_sem, Act.put, hsz, s0, s2, s8, s9, hlt, t1, t2, w1, w2]) ?_
      refine g_pass (i := 7) rfl (by kernel_rfl) (by kernel_rfl) (by kernel_rfl) (fun _ _ _ h => h) (by simp [Region.wanted, yielded, Act.put, hsz]) hS0 ?_
      refine g_pass (i := 8) rfl (by kernel_rfl) (by kernel_rfl) (by kernel_rfl) (fun _ _ _ h => h) (by simp [Region.wanted, yielded, Act.put, hsz]) hS0 ?_
      refine g_pass (i := 9) rfl (by kernel_rfl) (by kernel_rfl) (by kernel_rfl) (fun _ _ _ h => h) (by simp [Region.wanted, yielded, Act.put, hsz]) hS0 ?_
      refine g_pass (i := 10) rfl (by kernel_rfl) (by kernel_rfl) (by kernel_rfl) (fun _ _ _ h => h) (by simp [Region.wanted, yielded, Act.put, hsz]) hS0 ?_
      refine g_pass (i := 11) rfl (by kernel_rfl) (by kernel_rfl) (by kernel_rfl) (fun _ _ _ h => h) (by simp [Region.wanted, yielded, Act.put, hsz]) hS0 ?_
      refine g_pass (i := 12) rfl (by kernel_rfl) (by kernel_rfl) (by kernel_rfl) (fun _ _ _ h => h) (by simp [Region.wanted, yielded, Act.put, hsz]) hS0 ?_
      refine g_pass (i := 13) rfl (by kernel_rfl) (by kernel_rfl) (by kernel_rfl) (fun _ _ _ h => h) (by simp [Region.wanted, yielded, Act.put, hsz]) hS0 ?_
      refine g_pass (i := 14) rfl (by kernel_rfl) (by kernel_rfl) (by kernel_rfl) (fun _ _ _ h => h) (by simp [Region.wanted, yielded, Act.put, hsz]) hS0 ?_
      refine g_pass (i := 15) rfl (by kernel_rfl) (by kernel_rfl) (by kernel_rfl) (fun _ _ _ h => h) (by simp [Region.wanted, yielded, Act.put, hsz]) hS0 ?_
      refine h_take (i := 16) (.bool true) rfl (by kernel_rfl) (by kernel_rfl) (by kernel_rfl) (fun _ _ _ h => h) rfl hS0 (fun W hW => by simp [execOp, go_sem, Act.put, hsz, s0, s2, s8, s9, hlt, t1, t2, w1, w2]) ?_
      refine wpAnyH_done (by kernel_rfl) ?_ _
      subst ha0
      have HB : Hid (Mm w ud []) := hS0.sub (by simp)
      clear hsz s0 s2 s8 s9 hS0 HM HCL hud HB1 HB2
      go_simp
      go_wp2
      go_ret
      rw [HQ.out]
      exact ⟨rfl, HB.out.below⟩
    | true =>
      cases gg with
      | false =>
        have HQ : Hid (res = 1) := HR1.out (by have := HA2.out; rw [HG.out] at this; exact this.symm)
        clear HA2 HG HR1
        go_upto_region 9 with (fail)
        refine wp_abs (fun a0 => a0.tmps.size = 76 ∧ (∀ h, a0.tmps[0]'h = .slice (some ⟨g, off, none⟩) n c) ∧ (∀ h, a0.tmps[2]'h = .int .i64 (M : Int)) ∧ (∀ h, a0.tmps[8]'h = .int .i64 (k : Int)) ∧ (∀ h, a0.tmps[9]'h = .pointer (some ⟨zb, 0, none⟩))) ⟨rfl, fun _ => rfl, fun _ => rfl, fun _ => rfl, fun _ => rfl⟩ ?_
        rintro a0 ⟨hsz, s0, s2, s8, s9⟩ ha0
        refine wp_region_held (S := fun W => Mm w W [(zb, 29, ivs [bl, bp])]) (by kernel_rfl) ?_
        obtain ⟨ud, hud⟩ : ∃ ud, u.drew = ud := ⟨_, rfl⟩
        have hS0 : Mm w ud [(zb, 29, ivs [bl, bp])] := by rw [← hud]; exact HM.out.drew
        show wpAnyH _ _ _ _ _ _ _ _ u.drew
        rw [hud]
        refine h_take (i := 0) (.pointer (some ⟨zb, 0, none⟩)) rfl (by kernel_rfl) (by kernel_rfl) (by kernel_rfl) (fun _ _ _ h => h) rfl hS0 (fun W hW => by simp [execOp, go_sem, Act.put, hsz, s0, s2, s8, s9, hlt, t1, t2, w1, w2]) ?_
        refine h_take (i := 1) (.int .i64 bl) rfl (by kernel_rfl) (by kernel_rfl) (by kernel_rfl) (fun _ _ _ h => h) rfl hS0 (fun W hW => ex_getv (p := ⟨zb, 0, none⟩) rfl (.inl rfl) (by simp [go_sem, Act.put, hsz]) (bv_cell hW.at0 rfl)) ?_
        refine h_take (i := 2) (.int .i64 (M : Int)) rfl (by kernel_rfl) (by kernel_rfl) (by kernel_rfl) (fun _ _ _ h => h) rfl hS0 (fun W hW => by simp [execOp, go_sem, Act.put, hsz, s0, s2, s8, s9, hlt, t1, t2, w1, w2]) ?_
        refine h_take (i := 3) (.int .i64 (M' : Int)) rfl (by kernel_rfl) (by kernel_rfl) (by kernel_rfl) (fun _ _ _ h => h) rfl hS0 (fun W hW => by simp [execOp, go_sem, Act.put, hsz, s0, s2, s8, s9, hlt, t1, t2, w1, w2]) ?_
        refine h_call (i := 4) 27 #[.int .i64 bl, .int .i64 0, .int .i64 (M' : Int)] rfl (by kernel_rfl) rfl (by simp [execOp, go_sem, Act.put, hsz, s0, s2, s8, s9, hlt, t1, t2, w1, w2]) ((HB1.out _).mono ?_)
        rintro e ux ⟨rfl, rfl⟩
        refine ⟨_, rfl, hS0, ?_⟩
        refine h_take (i := 5) (.bool false) rfl (by kernel_rfl) (by kernel_rfl) (by kernel_rfl) (fun _ _ _ h => h) rfl hS0 (fun W hW => by simp [execOp, go_sem, Act.put, hsz, s0, s2, s8, s9, hlt, t1, t2, w1, w2]) ?_
        refine h_take (i := 6) (.bool false) rfl (by kernel_rfl) (by kernel_rfl) (by kernel_rfl) (fun _ _ _ h => h) rfl hS0 (fun W hW => by simp [execOp, go_sem, Act.put, hsz, s0, s2, s8, s9, hlt, t1, t2, w1, w2]) ?_
        refine g_take (i := 7) (.pointer (some ⟨zb, 1, none⟩)) rfl (by kernel_rfl) (by kernel_rfl) (by kernel_rfl) (fun _ _ _ h => h) (by simp [Region.wanted, yielded, Act.put, hsz]) hS0 (fun W hW => by simp [execOp, go_sem, Act.put, hsz, s0, s2, s8, s9, hlt, t1, t2, w1, w2]) ?_
        refine g_take (i := 8) (.int .i64 bp) rfl (by kernel_rfl) (by kernel_rfl) (by kernel_rfl) (fun _ _ _ h => h) (by simp [Region.wanted, yielded, Act.put, hsz]) hS0 (fun W hW => ex_getv (p := ⟨zb, 1, none⟩) rfl (.inl rfl) (by simp [go_sem, Act.put, hsz]) (bv_cell hW.at0 rfl)) ?_
        refine g_take (i := 9) (.slice (some ⟨g, off, none⟩) n c) rfl (by kernel_rfl) (by kernel_rfl) (by kernel_rfl) (fun _ _ _ h => h) (by simp [Region.wanted, yielded, Act.put, hsz]) hS0 (fun W hW => by simp [execOp, go_sem, Act.put, hsz, s0, s2, s8, s9, hlt, t1, t2, w1, w2]) ?_
        refine g_take (i := 10) (.int .i64 (k : Int)) rfl (by kernel_rfl) (by kernel_rfl) (by kernel_rfl) (fun _ _ _ h => h) (by simp [Region.wanted, yielded, Act.put, hsz]) hS0 (fun W hW => by simp [execOp, go_sem, Act.put, hsz, s0, s2, s8, s9, hlt, t1, t2, w1, w2]) ?_
        refine g_take (i := 11) (.pointer (some ⟨g, off + k, none⟩)) rfl (by kernel_rfl) (by kernel_rfl) (by kernel_rfl) (fun _ _ _ h => h) (by simp [Region.wanted, yielded, Act.put, hsz]) hS0 (fun W hW => by simp [execOp, go_sem, Act.put, hsz, s0, s2, s8, s9, hlt, t1, t2, w1, w2]) ?_
        refine g_take (i := 12) (.int .i64 (p : Int)) rfl (by kernel_rfl) (by kernel_rfl) (by kernel_rfl) (fun _ _ _ h => h) (by simp [Region.wanted, yielded, Act.put, hsz]) hS0 (fun W hW => ex_getv (p := ⟨g, off + k, none⟩) rfl (.inl rfl) (by simp [go_sem, Act.put, hsz]) (HCL.out W hW.below)) ?_
        refine g_take (i := 13) (.int .i64 (p' : Int)) rfl (by kernel_rfl) (by kernel_rfl) (by kernel_rfl) (fun _ _ _ h => h) (by simp [Region.wanted, yielded, Act.put, hsz]) hS0 (fun W hW => by simp [execOp, go_sem, Act.put, hsz, s0, s2, s8, s9, hlt, t1, t2, w1, w2]) ?_
        refine g_call (i := 14) 27 #[.int .i64 bp, .int .i64 0, .int .i64 (p' : Int)] rfl (by kernel_rfl) (by simp [Region.wanted, yielded, Act.put, hsz]) (by simp [execOp, go_sem, Act.put, hsz, s0, s2, s8, s9, hlt, t1, t2, w1, w2]) ((HB2.out _).mono ?_)
        rintro e uy ⟨rfl, rfl⟩
        refine ⟨_, rfl, hS0, ?_⟩
        refine g_take (i := 15) (.bool true) rfl (by kernel_rfl) (by kernel_rfl) (by kernel_rfl) (fun _ _ _ h => h) (by simp [Region.wanted, yielded, Act.put, hsz]) hS0 (fun W hW => by simp [execOp, go_sem, Act.put, hsz, s0, s2, s8, s9, hlt, t1, t2, w1, w2]) ?_
        refine h_take (i := 16) (.bool true) rfl (by kernel_rfl) (by kernel_rfl) (by kernel_rfl) (fun _ _ _ h => h) rfl hS0 (fun W hW => by simp [execOp, go_sem, Act.put, hsz, s0, s2, s8, s9, hlt, t1, t2, w1, w2]) ?_
        refine wpAnyH_done (by kernel_rfl) ?_ _
        subst ha0
        have HB : Hid (Mm w ud []) := hS0.sub (by simp)
        clear hsz s0 s2 s8 s9 hS0 HM HCL hud HB1 HB2
        go_simp
        go_wp2
        go_ret
        rw [HQ.out]
        exact ⟨rfl, HB.out.below⟩
      | true =>
        have HQ : Hid (((P.zip T).drop (k + 1)).all (fun x => goodB (M : Int) x.1 x.2) = R) := by have := HA2.out; rw [HG.out] at this; exact this
        clear HA2 HG HR1
        go_upto_region 9 with (fail)
        refine wp_abs (fun a0 => a0.tmps.size = 76 ∧ (∀ h, a0.tmps[0]'h = .slice (some ⟨g, off, none⟩) n c) ∧ (∀ h, a0.tmps[2]'h = .int .i64 (M : Int)) ∧ (∀ h, a0.tmps[8]'h = .int .i64 (k : Int)) ∧ (∀ h, a0.tmps[9]'h = .pointer (some ⟨zb, 0, none⟩))) ⟨rfl, fun _ => rfl, fun _ => rfl, fun _ => rfl, fun _ => rfl⟩ ?_
        rintro a0 ⟨hsz, s0, s2, s8, s9⟩ ha0
        refine wp_region_held (S := fun W => Mm w W [(zb, 29, ivs [bl, bp])]) (by kernel_rfl) ?_
        obtain ⟨ud, hud⟩ : ∃ ud, u.drew = ud := ⟨_, rfl⟩
        have hS0 : Mm w ud [(zb, 29, ivs [bl, bp])] := by rw [← hud]; exact HM.out.drew
        show wpAnyH _ _ _ _ _ _ _ _ u.drew
        rw [hud]
        refine h_take (i := 0) (.pointer (some ⟨zb, 0, none⟩)) rfl (by kernel_rfl) (by kernel_rfl) (by kernel_rfl) (fun _ _ _ h => h) rfl hS0 (fun W hW => by simp [execOp, go_sem, Act.put, hsz, s0, s2, s8, s9, hlt, t1, t2, w1, w2]) ?_
        refine h_take (i := 1) (.int .i64 bl) rfl (by kernel_rfl) (by kernel_rfl) (by kernel_rfl) (fun _ _ _ h => h) rfl hS0 (fun W hW => ex_getv (p := ⟨zb, 0, none⟩) rfl (.inl rfl) (by simp [go_sem, Act.put, hsz]) (bv_cell hW.at0 rfl)) ?_
        refine h_take (i := 2) (.int .i64 (M : Int)) rfl (by kernel_rfl) (by kernel_rfl) (by kernel_rfl) (fun _ _ _ h => h) rfl hS0 (fun W hW => by simp [execOp, go_sem, Act.put, hsz, s0, s2, s8, s9, hlt, t1, t2, w1, w2]) ?_
        refine h_take (i := 3) (.int .i64 (M' : Int)) rfl (by kernel_rfl) (by kernel_rfl) (by kernel_rfl) (fun _ _ _ h => h) rfl hS0 (fun W hW => by simp [execOp, go_sem, Act.put, hsz, s0, s2, s8, s9, hlt, t1, t2, w1, w2]) ?_
        refine h_call (i := 4) 27 #[.int .i64 bl, .int .i64 0, .int .i64 (M' : Int)] rfl (by kernel_rfl) rfl (by simp [execOp, go_sem, Act.put, hsz, s0, s2, s8, s9, hlt, t1, t2, w1, w2]) ((HB1.out _).mono ?_)
        rintro e ux ⟨rfl, rfl⟩
        refine ⟨_, rfl, hS0, ?_⟩
        refine h_take (i := 5) (.bool false) rfl (by kernel_rfl) (by kernel_rfl) (by kernel_rfl) (fun _ _ _ h => h) rfl hS0 (fun W hW => by simp [execOp, go_sem, Act.put, hsz, s0, s2, s8, s9, hlt, t1, t2, w1, w2]) ?_
        refine h_take (i := 6) (.bool false) rfl (by kernel_rfl) (by kernel_rfl) (by kernel_rfl) (fun _ _ _ h => h) rfl hS0 (fun W hW => by simp [execOp, go_sem, Act.put, hsz, s0, s2, s8, s9, hlt, t1, t2, w1, w2]) ?_
        refine g_take (i := 7) (.pointer (some ⟨zb, 1, none⟩)) rfl (by kernel_rfl) (by kernel_rfl) (by kernel_rfl) (fun _ _ _ h => h) (by simp [Region.wanted, yielded, Act.put, hsz]) hS0 (fun W hW => by simp [execOp, go_sem, Act.put, hsz, s0, s2, s8, s9, hlt, t1, t2, w1, w2]) ?_
        refine g_take (i := 8) (.int .i64 bp) rfl (by kernel_rfl) (by kernel_rfl) (by kernel_rfl) (fun _ _ _ h => h) (by simp [Region.wanted, yielded, Act.put, hsz]) hS0 (fun W hW => ex_getv (p := ⟨zb, 1, none⟩) rfl (.inl rfl) (by simp [go_sem, Act.put, hsz]) (bv_cell hW.at0 rfl)) ?_
        refine g_take (i := 9) (.slice (some ⟨g, off, none⟩) n c) rfl (by kernel_rfl) (by kernel_rfl) (by kernel_rfl) (fun _ _ _ h => h) (by simp [Region.wanted, yielded, Act.put, hsz]) hS0 (fun W hW => by simp [execOp, go_sem, Act.put, hsz, s0, s2, s8, s9, hlt, t1, t2, w1, w2]) ?_
        refine g_take (i := 10) (.int .i64 (k : Int)) rfl (by kernel_rfl) (by kernel_rfl) (by kernel_rfl) (fun _ _ _ h => h) (by simp [Region.wanted, yielded, Act.put, hsz]) hS0 (fun W hW => by simp [execOp, go_sem, Act.put, hsz, s0, s2, s8, s9, hlt, t1, t2, w1, w2]) ?_
        refine g_take (i := 11) (.pointer (some ⟨g, off + k, none⟩)) rfl (by kernel_rfl) (by kernel_rfl) (by kernel_rfl) (fun _ _ _ h => h) (by simp [Region.wanted, yielded, Act.put, hsz]) hS0 (fun W hW => by simp [execOp, go_sem, Act.put, hsz, s0, s2, s8, s9, hlt, t1, t2, w1, w2]) ?_
        refine g_take (i := 12) (.int .i64 (p : Int)) rfl (by kernel_rfl) (by kernel_rfl) (by kernel_rfl) (fun _ _ _ h => h) (by simp [Region.wanted, yielded, Act.put, hsz]) hS0 (fun W hW => ex_getv (p := ⟨g, off + k, none⟩) rfl (.inl rfl) (by simp [go_sem, Act.put, hsz]) (HCL.out W hW.below)) ?_
        refine g_take (i := 13) (.int .i64 (p' : Int)) rfl (by kernel_rfl) (by kernel_rfl) (by kernel_rfl) (fun _ _ _ h => h) (by simp [Region.wanted, yielded, Act.put, hsz]) hS0 (fun W hW => by simp [execOp, go_sem, Act.put, hsz, s0, s2, s8, s9, hlt, t1, t2, w1, w2]) ?_
        refine g_call (i := 14) 27 #[.int .i64 bp, .int .i64 0, .int .i64 (p' : Int)] rfl (by kernel_rfl) (by simp [Region.wanted, yielded, Act.put, hsz]) (by simp [execOp, go_sem, Act.put, hsz, s0, s2, s8, s9, hlt, t1, t2, w1, w2]) ((HB2.out _).mono ?_)
        rintro e uy ⟨rfl, rfl⟩
        refine ⟨_, rfl, hS0, ?_⟩
        refine g_take (i := 15) (.bool false) rfl (by kernel_rfl) (by kernel_rfl) (by kernel_rfl) (fun _ _ _ h => h) (by simp [Region.wanted, yielded, Act.put, hsz]) hS0 (fun W hW => by simp [execOp, go_sem, Act.put, hsz, s0, s2, s8, s9, hlt, t1, t2, w1, w2]) ?_
        refine h_take (i := 16) (.bool false) rfl (by kernel_rfl) (by kernel_rfl) (by kernel_rfl) (fun _ _ _ h => h) rfl hS0 (fun W hW => by simp [execOp, go_sem, Act.put, hsz, s0, s2, s8, s9, hlt, t1, t2, w1, w2]) ?_
        refine wpAnyH_done (by kernel_rfl) ?_ _
        subst ha0
        have HB : Hid (Mm w ud []) := hS0.sub (by simp)
        clear hsz s0 s2 s8 s9 hS0 HM HCL hud HB1 HB2
        go_simp
        go_wp2
        go_roundw
        case rel => exact ⟨k + 1, by omega, by go_num, HB.out, HQ.out⟩
        case measure => simp [intOf]; omega
set_option maxHeartbeats 2000000 in
theorem rightR_any (v pv : Value) (P : List Int) (T : List Bi) (m : Int) (w : World) (hv : Ris w v P) (hp : Rbs w pv T) : Calls Try.prog 15 #[v, pv, .int .i64 m] w fun e u => e = .returned (.int .i64 (chkP P T m)) ∧ Below w.heap.size w u := by
  have HC : Hid (Calls Try.prog 23 #[v, .int .i64 m] w fun e w' => e = .returned (.int .i64 (chk P m)) ∧ w = w') := tasks_any v P m w hv
  unfold chkP
  by_cases h0 : chk P m = 0
  · rw [if_pos h0]
    by_cases h1 : T.length = P.length
    · rw [if_pos h1]
      obtain ⟨q1, q2, q3, q4⟩ := chk_ok h0
      obtain ⟨M, rfl⟩ := Int.eq_ofNat_of_zero_le (show 0 ≤ m by omega)
      exact rightR_mid v pv P T M w hv hp h0 h1
    · rw [if_neg h1]
      rw [h0] at HC
      obtain ⟨a, c, rfl, hlc, hcm⟩ := hv.form
      obtain ⟨a2, c2, rfl, hlc2, hcm2⟩ := hp.form
      generalize P.length = n at *
      generalize T.length = t at *
      have e1 : ((t : Int) != (n : Int)) = true := by simp; omega
      unfold maxLen at hcm hcm2
      clear hv hp h0
      go_enter Try.func15, Try.ntmps15
      go_wp2_with fail
      refine (HC.out).mono ?_
      rintro e u ⟨rfl, rfl⟩
      clear HC
      go_wp2
      go_ret
      exact ⟨rfl, Below.refl _ _⟩
  · rw [if_neg h0]
    obtain ⟨z, hz⟩ : ∃ z, chk P m = z := ⟨_, rfl⟩
    rw [hz] at HC h0 ⊢
    have e0 : (z != 0) = true := by simpa using h0
    clear hv hp hz h0
    go_enter Try.func15, Try.ntmps15
    go_wp2_with fail
    refine (HC.out).mono ?_
    rintro e u ⟨rfl, rfl⟩
    clear HC
    go_wp2
    go_ret
    exact ⟨rfl, Below.refl _ _⟩
end Go.Proofs.Ytcenaleladjakaa.budget
