/- budget: what doClash and Check answer. -/
import Derived.Test.YtcenaleladjakabBudQ
namespace Go.Proofs.Ytcenaleladjakab.budget
open Go Go.RowKit
set_option linter.unusedVariables false
set_option linter.unusedSimpArgs false
set_option maxRecDepth 100000

def enI (x : Int × Bi) : En := (x.1.toNat, x.2.1.toNat, x.2.2.toNat)
/-- a plan's berths as they were handed in -/
def ensI (P : List Int) (T : List Bi) : List En := (P.zip T).map enI
/-- does some berth clash with one ahead of it? -/
def dcl : List En → List En → Bool
  | _, [] => false
  | S, x :: r => if S.all (fun y => !cl x y) = true then dcl (S ++ [x]) r else true
theorem dcl_iff : ∀ (r S : List En), Apart S → (dcl S r = false ↔ Apart (S ++ r))
  | [], S, h => by simp [dcl, h]
  | x :: r, S, h => by
    unfold dcl
    by_cases q : S.all (fun y => !cl x y) = true
    · rw [if_pos q]
      have h2 : Apart (S ++ [x]) := by
        unfold Apart
        rw [List.pairwise_append]
        refine ⟨h, by simp, fun y hy z hz => ?_⟩
        rw [List.mem_singleton.1 hz, cl_comm]
        have := List.all_eq_true.1 q y hy
        simpa using this
      rw [dcl_iff r (S ++ [x]) h2]
      simp
    · rw [if_neg q]
      constructor
      · intro z; exact absurd z (by simp)
      · intro z
        exfalso
        refine q (List.all_eq_true.2 fun y hy => ?_)
        unfold Apart at z
        have := (List.pairwise_append.1 z).2.2 y hy x (by simp)
        rw [cl_comm] at this
        simp [this]
structure Dc (E : List En) (m i : Nat) (U : List Nat) : Prop where
  ve : ∀ x ∈ E, Ve m x
  ul : U.length = 8
  um : ∀ l, l < 8 → U.getD l 0 = msk (E.take i) l
  dc : dcl [] E = dcl (E.take i) (E.drop i)
theorem Dc.zero {E : List En} {m : Nat} (h : ∀ x ∈ E, Ve m x) : Dc E m 0 (List.replicate 8 0) := ⟨h, by simp, fun l hl => by
  rw [List.getD_eq_getElem?_getD, List.getElem?_replicate, if_pos hl]
  simp [msk], by simp⟩
section
variable {E : List En} {m i : Nat} {U : List Nat} {x : En}
theorem Dc.test (h : Dc E m i U) (hm : m ≤ 8) (hx : E[i]? = some x) : (U.getD x.2.1 0 &&& Go.Proofs.Ytcenaleladjakab.budget.mk x.1 x.2.2 = 0) ↔ (E.take i).all (fun y => !cl x y) = true := by
  have hv := h.ve x (List.mem_of_getElem? hx)
  rw [h.um _ (by have := hv.ln; omega), msk_free (fun y hy => h.ve y (List.mem_of_mem_take hy)) hv.ok hv.ph]
  simp
theorem Dc.yes (h : Dc E m i U) (hx : E[i]? = some x) (hc : ¬ (E.take i).all (fun y => !cl x y) = true) : dcl [] E = true := by
  have hi := (List.getElem?_eq_some_iff.1 hx).1
  rw [h.dc, List.drop_eq_getElem_cons hi, (List.getElem?_eq_some_iff.1 hx).2]
  unfold dcl
  rw [if_neg hc]
theorem Dc.next (h : Dc E m i U) (hm : m ≤ 8) (hx : E[i]? = some x) (hc : (E.take i).all (fun y => !cl x y) = true) : Dc E m (i + 1) (U.set x.2.1 (U.getD x.2.1 0 ||| Go.Proofs.Ytcenaleladjakab.budget.mk x.1 x.2.2)) := by
  have hi := (List.getElem?_eq_some_iff.1 hx).1
  have hv := h.ve x (List.mem_of_getElem? hx)
  have ht : E.take (i + 1) = E.take i ++ [x] := by rw [List.take_succ_eq_append_getElem hi, (List.getElem?_eq_some_iff.1 hx).2]
  refine ⟨h.ve, by rw [List.length_set, h.ul], fun l hl => ?_, ?_⟩
  · rw [ht, msk_snoc]
    by_cases e : x.2.1 = l
    · rw [if_pos e, e, List.getD_eq_getElem?_getD, List.getElem?_set_self (by rw [h.ul]; exact hl), ← h.um l hl]
      rfl
    · rw [if_neg e, List.getD_eq_getElem?_getD, List.getElem?_set_ne e, ← List.getD_eq_getElem?_getD, h.um l hl]
  · rw [h.dc, ht, List.drop_eq_getElem_cons hi, (List.getElem?_eq_some_iff.1 hx).2]
    conv => lhs; unfold dcl
    rw [if_pos hc]
theorem Dc.small (h : Dc E m i U) (hm : m ≤ 8) (hx : E[i]? = some x) : U.getD x.2.1 0 < 4294967296 ∧ Go.Proofs.Ytcenaleladjakab.budget.mk x.1 x.2.2 < 4294967296 ∧ x.2.1 < 8 := by
  have hv := h.ve x (List.mem_of_getElem? hx)
  exact ⟨by rw [h.um _ (by have := hv.ln; omega)]; exact msk_small (fun y hy => h.ve y (List.mem_of_mem_take hy)) _, mk_small hv.ok hv.ph, by have := hv.ln; omega⟩
theorem Dc.done (h : Dc E m i U) (hi : ¬ i < E.length) : dcl [] E = false := by
  rw [h.dc, List.drop_eq_nil_of_le (by omega)]
  rfl
end
theorem ensI_ve {P : List Int} {T : List Bi} {m : Nat} (hP : okP P) (hg : areB P T (m : Int) = true) : ∀ x ∈ ensI P T, Ve m x := fun x hx => by
  unfold ensI at hx
  obtain ⟨⟨p, b⟩, hy, rfl⟩ := List.mem_map.1 hx
  have h1 := goodB_iff.1 (List.all_eq_true.1 hg _ hy)
  have h2 := hP p (List.of_mem_zip hy).1
  simp only at h1
  exact ⟨h2.2, by show b.1.toNat < m; omega, by show b.2.toNat < p.toNat; omega⟩
set_option maxHeartbeats 4000000 in
theorem doClash_any (v pv : Value) (P : List Int) (T : List Bi) (m : Nat) (w : World) (hv : Ris w v P) (hp : Rbs w pv T) (hl : T.length = P.length) (h64 : P.length ≤ 64) (hP : okP P) (hm : m ≤ 8) (hg : areB P T (m : Int) = true) : Calls Try.prog 23 #[v, pv] w fun e u => e = .returned (.bool (dcl [] (ensI P T))) ∧ Below w.heap.size w u := by
  obtain ⟨a, c, rfl, hlc, hcm⟩ := hv.form
  obtain ⟨a2, c2, rfl, hlc2, hcm2⟩ := hp.form
  rw [hl] at hp hlc2 ⊢
  have HC : Hid (∀ k, k < P.length → ∃ x : En, (ensI P T)[k]? = some x ∧ (∃ g off, a = some ⟨g, off, none⟩ ∧ ∀ u, Below w.heap.size w u → u.cell? ⟨g, off + k, none⟩ = some (.int .i64 (x.1 : Int))) ∧ (∃ g off, a2 = some ⟨g, off, none⟩ ∧ ∀ u, Below w.heap.size w u → u.rangeAt g (off + k * 2) (ivs [(x.2.1 : Int), (x.2.2 : Int)]))) := fun k hk => by
    have e1 := List.getElem?_eq_getElem hk
    have e2 := List.getElem?_eq_getElem (l := T) (i := k) (by omega)
    have ez := zip_at e1 e2
    have hgd := goodB_iff.1 (List.all_eq_true.1 hg _ (List.mem_of_getElem? ez))
    simp only at hgd
    have hpp := hP P[k] (List.getElem_mem _)
    have q1 : ((P[k].toNat : Nat) : Int) = P[k] := by omega
    have q2 : (((T[k]'(by omega)).1.toNat : Nat) : Int) = (T[k]'(by omega)).1 := by omega
    have q3 : (((T[k]'(by omega)).2.toNat : Nat) : Int) = (T[k]'(by omega)).2 := by omega
    refine ⟨enI (P[k], T[k]'(by omega)), by unfold ensI; rw [List.getElem?_map, ez]; rfl, ?_, ?_⟩
    · obtain ⟨g, off, h1, h2⟩ := hv.at k _ e1
      refine ⟨g, off, h1, fun u hb => ?_⟩
      obtain ⟨g', off', h1', h2'⟩ := (hv.below hb).at k _ e1
      rw [h1] at h1'
      injection h1' with h1'
      injection h1' with z1 z2 _
      subst z1 z2
      show _ = some (Value.int .i64 ((P[k].toNat : Nat) : Int))
      rw [q1]
      exact h2'
    · obtain ⟨g, off, h1, h2, h3⟩ := hp.at k _ e2
      refine ⟨g, off, h1, fun u hb => ?_⟩
      obtain ⟨g', off', h1', h2', h3'⟩ := (hp.below hb).at k _ e2
      rw [h1] at h1'
      injection h1' with h1'
      injection h1' with z1 z2 _
      subst z1 z2
      show u.rangeAt g (off + k * 2) (ivs [(((T[k]'(by omega)).1.toNat : Nat) : Int), (((T[k]'(by omega)).2.toNat : Nat) : Int)])
      rw [q2, q3]
      exact two_range h2' h3'
  have hve := ensI_ve hP hg
  have HD0 : Hid (Dc (ensI P T) m 0 (List.replicate 8 0)) := Dc.zero hve
  have HZ : Hid ((ensI P T).length = P.length) := by show _ = _; unfold ensI; rw [List.length_map, List.length_zip]; omega
  have HRM : Hid (∀ (x : En) (k : Nat) (W : World), (ensI P T)[k]? = some x → Calls Try.prog 16 #[.int .i64 (x.1 : Int), .int .i64 (x.2.2 : Int)] W fun e w' => e = .returned (.int .u32 (Go.Proofs.Ytcenaleladjakab.budget.mk x.1 x.2.2 : Int)) ∧ W = w') := fun x k W hx => roomsOf_any x.1 x.2.2 W (hve x (List.mem_of_getElem? hx)).ok (hve x (List.mem_of_getElem? hx)).ph
  obtain ⟨E, hE⟩ : ∃ E, ensI P T = E := ⟨_, rfl⟩
  rw [hE] at HC HD0 HZ HRM ⊢
  obtain ⟨R, hR⟩ : ∃ R, dcl [] E = R := ⟨_, rfl⟩
  have HR : Hid (dcl [] E = R) := hR
  rw [hR]
  obtain ⟨n, hn⟩ : ∃ n, P.length = n := ⟨_, rfl⟩
  rw [hn] at HC HZ hlc hlc2 h64 ⊢
  unfold maxLen at hcm hcm2
  have hM := Mm.nil w
  clear hv hp hl hn hR hE hve hP hg
  go_enter Try.func23, Try.ntmps23
  repeat' (first | (go_big_may; first | (refine v_alloc rfl zer_taken rfl ?_; intro u gu hN; replace hM := hM.new hN; clear hN)) | go_values | go_skip | go_guarded | go_step | go_upon | (simp only [Int.not_lt, Int.not_le] at *; go_simp))
  have HM0 : Hid (∃ U, Mm w u [(gu, 43, uvs U)] ∧ Dc E m 0 U) := ⟨_, hM, HD0.out⟩
  clear hM HD0
  go_loopw [6, 7, 8, 11] (fun _ _ _ i wr => ∃ k : Nat, k ≤ n ∧ i = .int .i64 (k : Int) ∧ Hid (∃ U, Mm w wr [(gu, 43, uvs U)] ∧ Dc E m k U)) (fun _ _ _ i _ => n - (intOf i).toNat)
  case atStart => exact ⟨0, Nat.zero_le _, rfl, HM0.out⟩
  case round =>
    clear HM0
    obtain ⟨k, hk, rfl, HA⟩ := hrel
    obtain ⟨U, hM, hD⟩ := HA.out
    have HD : Hid (Dc E m k U) := hD
    clear hD HA
    by_cases hlt : ¬ k < n
    · have HQ : Hid (R = false ∧ Below w.heap.size w wr) := ⟨by rw [← HR.out]; exact HD.out.done (by have := HZ.out; omega), hM.below⟩
      clear hM HD HC HZ HRM HR
      go_wp2
      go_ret
      rw [HQ.out.1]
      exact ⟨rfl, HQ.out.2⟩
    have hlt : k < n := by omega
    obtain ⟨⟨p, ln, ph⟩, h1, ⟨g, off, rfl, hc⟩, ⟨g2, off2, rfl, hr⟩⟩ := HC.out k hlt
    have hsm : U.getD ln 0 < 4294967296 ∧ Go.Proofs.Ytcenaleladjakab.budget.mk p ph < 4294967296 ∧ ln < 8 := HD.out.small hm h1
    obtain ⟨sm1, sm2, hln8⟩ := hsm
    have HT : Hid ((U.getD ln 0 &&& Go.Proofs.Ytcenaleladjakab.budget.mk p ph = 0) ↔ (E.take k).all (fun y => !cl (p, ln, ph) y) = true) := HD.out.test hm h1
    have HY : Hid (¬ (E.take k).all (fun y => !cl (p, ln, ph) y) = true → R = true) := fun q => by rw [← HR.out]; exact HD.out.yes h1 q
    have HNx : Hid ((E.take k).all (fun y => !cl (p, ln, ph) y) = true → Dc E m (k + 1) (U.set ln (U.getD ln 0 ||| Go.Proofs.Ytcenaleladjakab.budget.mk p ph))) := fun q => HD.out.next hm h1 q
    have HRO : Hid (∀ W, Calls Try.prog 16 #[.int .i64 (p : Int), .int .i64 (ph : Int)] W fun e w' => e = .returned (.int .u32 (Go.Proofs.Ytcenaleladjakab.budget.mk p ph : Int)) ∧ W = w') := fun W => HRM.out (p, ln, ph) k W h1
    have eor := or32 sm1 sm2
    have ean := and32 sm1 sm2
    have hUl := HD.out.ul
    have hgu : (uvs U)[ln]? = some (.int .u32 (U.getD ln 0 : Int)) := uvs_at (by rw [List.getD_eq_getElem?_getD, List.getElem?_eq_getElem (by omega)]; rfl)
    have HLU : Hid (ln < (uvs U).length) := by show ln < _; rw [uvs_length, hUl]; exact hln8
    obtain ⟨mu, hmu⟩ : ∃ mu, U.getD ln 0 = mu := ⟨_, rfl⟩
    obtain ⟨mo, hmo⟩ : ∃ mo, Go.Proofs.Ytcenaleladjakab.budget.mk p ph = mo := ⟨_, rfl⟩
    rw [hmo] at HRO
    rw [hmu, hmo] at eor ean HT HNx
    rw [hmu] at hgu
    obtain ⟨mw, hmw⟩ : ∃ mw, mu ||| mo = mw := ⟨_, rfl⟩
    obtain ⟨z, hz⟩ : ∃ z, mu &&& mo = z := ⟨_, rfl⟩
    rw [hmw] at eor HNx
    rw [hz] at ean HT
    have HGU : Hid ((uvs U)[ln]? = some (.int .u32 (mu : Int))) := hgu
    have HRG : Hid (wr.rangeAt g2 (off2 + k * 2) (ivs [(ln : Int), (ph : Int)])) := hr wr hM.below
    have HCL : Hid (∀ u, Below w.heap.size w u → u.cell? ⟨g, off + k, none⟩ = some (.int .i64 (p : Int))) := hc
    have HV : Hid (Vs (ivs [(ln : Int), (ph : Int)]) 2) := two_vs _ _
    have HV2 : Hid ((ivs [0, 0]).length = 2) := rfl
    have hln9 : ¬ (8 : Int) ≤ (ln : Int) := by omega
    clear HC hc hr h1 HD HR HRM HZ sm1 sm2 hUl hgu hmu hmo hmw hz
    repeat' (first | (go_big_may; first | (refine v_ldR rfl rfl row_berth rfl HRG.out rfl ?_) | (refine v_alloc rfl zer_berth rfl ?_; intro u zb hN; replace hM := hM.new hN; clear hN) | (refine v_fill rfl rfl row_berth rfl rfl hM.at0 HV.out HV2.out ?_; intro u hv hc; replace hM := hM.put0 hc hv; clear hv hc)) | go_values | go_skip | go_guarded | go_step | go_upon | (simp only [Int.not_lt, Int.not_le] at *; go_simp))
    have HM : Hid (Mm w u [(zb, 33, ivs [(ln : Int), (ph : Int)]), (gu, 43, uvs U)]) := hM
    clear hM HRG HV HV2
    go_upto_region 5 with (fail)
    refine wp_abs (fun a0 => a0.tmps.size = 38 ∧ (∀ h, a0.tmps[0]'h = .slice (some ⟨g, off, none⟩) n c) ∧ (∀ h, a0.tmps[6]'h = .int .i64 (k : Int)) ∧ (∀ h, a0.tmps[7]'h = .pointer (some ⟨zb, 0, none⟩))) ⟨rfl, fun _ => rfl, fun _ => rfl, fun _ => rfl⟩ ?_
    rintro a0 ⟨hsz, s0, s6, s7⟩ ha0
    refine wp_region_held (S := fun W => Mm w W [(zb, 33, ivs [(ln : Int), (ph : Int)]), (gu, 43, uvs U)]) (by kernel_rfl) ?_
    obtain ⟨ud, hud⟩ : ∃ ud, u.drew = ud := ⟨_, rfl⟩
    have hS0 : Mm w ud [(zb, 33, ivs [(ln : Int), (ph : Int)]), (gu, 43, uvs U)] := by rw [← hud]; exact HM.out.drew
    show wpAnyH _ _ _ _ _ _ _ _ u.drew
    rw [hud]
    refine h_take (i := 0) (.slice (some ⟨g, off, none⟩) n c) rfl (by kernel_rfl) (by kernel_rfl) (by kernel_rfl) (fun _ _ _ h => h) rfl hS0 (fun W hW => by simp [execOp, go_sem, Act.put, hsz, s0, s6, s7, hlt]) ?_
    refine h_take (i := 1) (.int .i64 (k : Int)) rfl (by kernel_rfl) (by kernel_rfl) (by kernel_rfl) (fun _ _ _ h => h) rfl hS0 (fun W hW => by simp [execOp, go_sem, Act.put, hsz, s0, s6, s7, hlt]) ?_
    refine h_take (i := 2) (.pointer (some ⟨g, off + k, none⟩)) rfl (by kernel_rfl) (by kernel_rfl) (by kernel_rfl) (fun _ _ _ h => h) rfl hS0 (fun W hW => by simp [execOp, go_sem, Act.put, hsz, s0, s6, s7, hlt]) ?_
    refine h_take (i := 3) (.int .i64 (p : Int)) rfl (by kernel_rfl) (by kernel_rfl) (by kernel_rfl) (fun _ _ _ h => h) rfl hS0 (fun W hW => ex_getv (p := ⟨g, off + k, none⟩) rfl (.inl rfl) (by simp [go_sem, Act.put, hsz]) (HCL.out W hW.below)) ?_
    refine h_take (i := 4) (.pointer (some ⟨zb, 1, none⟩)) rfl (by kernel_rfl) (by kernel_rfl) (by kernel_rfl) (fun _ _ _ h => h) rfl hS0 (fun W hW => by simp [execOp, go_sem, Act.put, hsz, s0, s6, s7, hlt]) ?_
    refine h_take (i := 5) (.int .i64 (ph : Int)) rfl (by kernel_rfl) (by kernel_rfl) (by kernel_rfl) (fun _ _ _ h => h) rfl hS0 (fun W hW => ex_getv (p := ⟨zb, 1, none⟩) rfl (.inl rfl) (by simp [go_sem, Act.put, hsz]) (bv_cell hW.at0 rfl)) ?_
    refine h_call (i := 6) 16 #[.int .i64 (p : Int), .int .i64 (ph : Int)] rfl (by kernel_rfl) rfl (by simp [execOp, go_sem, Act.put, hsz, s0, s6, s7, hlt]) ((HRO.out _).mono ?_)
    rintro e u6 ⟨rfl, rfl⟩
    refine ⟨_, rfl, hS0, ?_⟩
    refine h_take (i := 7) (.int .u32 (mo : Int)) rfl (by kernel_rfl) (by kernel_rfl) (by kernel_rfl) (fun _ _ _ h => h) rfl hS0 (fun W hW => by simp [execOp, go_sem, Act.put, hsz, s0, s6, s7, hlt]) ?_
    refine wpAnyH_done (by kernel_rfl) ?_ _
    have hM := hS0
    subst ha0
    clear hsz s0 s6 s7 hS0 HM HCL HRO hud
    go_simp
    have hc0 : ud.cell? ⟨zb, 0, none⟩ = some (.int .i64 (ln : Int)) := bv_cell hM.at0 rfl
    have hcu : ud.cell? ⟨gu, ln, none⟩ = some (.int .u32 (mu : Int)) := bv_cell hM.at1 HGU.out
    have hfu := bv_free hM.at1 ln
    by_cases hz0 : z = 0
    · have HQ : Hid (Mm w (ud.setCell ⟨gu, ln, none⟩ (.int .u32 (mw : Int))) [(gu, 43, uvs (U.set ln mw))] ∧ Dc E m (k + 1) (U.set ln mw)) := by
        have hst := set_bv (j := ln) (x := .int .u32 (mw : Int)) hM.at1
        rw [uvs_set] at hst
        exact ⟨(hM.put1 hst.2 hst.1).sub (.cons _ (List.Sublist.refl _)), HNx.out (HT.out.1 hz0)⟩
      have ez : ((z : Int) != 0) = false := by simp [hz0]
      clear hM HT HY HNx hz0
      go_wp2
      go_roundw
      case rel => exact ⟨k + 1, by omega, by go_num, _, HQ.out⟩
      case measure => simp [intOf]; omega
    · have HQ : Hid (R = true ∧ Below w.heap.size w ud) := ⟨HY.out (fun q => hz0 (HT.out.2 q)), hM.below⟩
      have ez : ((z : Int) != 0) = true := by simp [hz0]
      clear hM HT HY HNx hz0
      go_wp2
      go_ret
      rw [HQ.out.1]
      exact ⟨rfl, HQ.out.2⟩
/-- what there is to say against a plan -/
def chkP (P : List Int) (T : List Bi) (m : Int) : Int := if chk P m = 0 then (if T.length = P.length then (if areB P T m = true then (if dcl [] (ensI P T) = true then 13 else 0) else 1) else 4) else chk P m
set_option maxHeartbeats 4000000 in
theorem checkP_any (v pv : Value) (P : List Int) (T : List Bi) (m : Int) (w : World) (hv : Ris w v P) (hp : Rbs w pv T) : Calls Try.prog 17 #[v, pv, .int .i64 m] w fun e u => e = .returned (.int .i64 (chkP P T m)) ∧ Below w.heap.size w u := by
  have HC : Hid (Calls Try.prog 13 #[v, .int .i64 m] w fun e w' => e = .returned (.int .i64 (chk P m)) ∧ w = w') := check_any v P m w hv
  have HA : Hid (chk P m = 0 → T.length = P.length → Calls Try.prog 22 #[v, pv, .int .i64 m] w fun e u => e = .returned (.bool (areB P T m)) ∧ Below w.heap.size w u) := fun h1 h2 => areBerths_any v pv P T m w hv hp h2 (chk_ok h1).2.2.1
  have HD : Hid (chk P m = 0 → T.length = P.length → areB P T m = true → ∀ u, Below w.heap.size w u → Calls Try.prog 23 #[v, pv] u fun e u' => e = .returned (.bool (dcl [] (ensI P T))) ∧ Below u.heap.size u u') := fun h1 h2 h3 u hb => by
    obtain ⟨q1, q2, q3, q4⟩ := chk_ok h1
    obtain ⟨M, rfl⟩ := Int.eq_ofNat_of_zero_le (show 0 ≤ m by omega)
    exact doClash_any v pv P T M u (hv.below hb) (hp.below hb) h2 q3 q4 (by omega) h3
  obtain ⟨a, c, rfl, hlc, hcm⟩ := hv.form
  obtain ⟨a2, c2, rfl, hlc2, hcm2⟩ := hp.form
  unfold chkP
  obtain ⟨z, hz⟩ : ∃ z, chk P m = z := ⟨_, rfl⟩
  obtain ⟨n, hn⟩ : ∃ n, P.length = n := ⟨_, rfl⟩
  obtain ⟨t, ht⟩ : ∃ t, T.length = t := ⟨_, rfl⟩
  obtain ⟨ab, hab⟩ : ∃ ab, areB P T m = ab := ⟨_, rfl⟩
  obtain ⟨db, hdb⟩ : ∃ db, dcl [] (ensI P T) = db := ⟨_, rfl⟩
  rw [hz] at HC HA HD ⊢
  rw [hn, ht] at HA HD ⊢
  rw [hn] at HC hlc
  rw [ht] at hlc2
  rw [hab] at HA HD ⊢
  rw [hdb] at HD ⊢
  unfold maxLen at hcm hcm2
  clear hv hp hz hn ht hab hdb
  by_cases h0 : z = 0
  · have e0 : (z != 0) = false := by simpa using h0
    rw [if_pos h0]
    by_cases h1 : t = n
    · rw [if_pos h1]
      have e1 : ((t : Int) != (n : Int)) = false := by simp [h1]
      have HA2 : Hid (Calls Try.prog 22 #[.slice a n c, .slice a2 t c2, .int .i64 m] w fun e u => e = .returned (.bool ab) ∧ Below w.heap.size w u) := HA.out h0 h1
      cases ab with
      | false =>
        rw [if_neg (by simp)]
        clear HA HD h0 h1
        go_enter Try.func17, Try.ntmps17
        go_wp2_with fail
        refine (HC.out).mono ?_
        rintro e u ⟨rfl, rfl⟩
        go_wp2_with fail
        refine (HA2.out).mono ?_
        rintro e u ⟨rfl, hb⟩
        have HB : Hid (Below w.heap.size w u) := hb
        clear HC HA2 hb
        go_wp2
        go_ret
        exact ⟨rfl, HB.out⟩
      | true =>
        rw [if_pos rfl]
        have HD2 : Hid (∀ u, Below w.heap.size w u → Calls Try.prog 23 #[.slice a n c, .slice a2 t c2] u fun e u' => e = .returned (.bool db) ∧ Below u.heap.size u u') := HD.out h0 h1 rfl
        cases db with
        | true =>
          rw [if_pos rfl]
          clear HA HD h0 h1
          go_enter Try.func17, Try.ntmps17
          go_wp2_with fail
          refine (HC.out).mono ?_
          rintro e u ⟨rfl, rfl⟩
          go_wp2_with fail
          refine (HA2.out).mono ?_
          rintro e u ⟨rfl, hb⟩
          have HB : Hid (Below w.heap.size w u) := hb
          clear HC HA2 hb
          go_wp2_with fail
          refine (HD2.out u HB.out).mono ?_
          rintro e u2 ⟨rfl, hb⟩
          have HB2 : Hid (Below w.heap.size w u2) := bsq HB.out hb
          clear HD2 hb HB
          go_wp2
          go_ret
          exact ⟨rfl, HB2.out⟩
        | false =>
          rw [if_neg (by simp)]
          clear HA HD h0 h1
          go_enter Try.func17, Try.ntmps17
          go_wp2_with fail
          refine (HC.out).mono ?_
          rintro e u ⟨rfl, rfl⟩
          go_wp2_with fail
          refine (HA2.out).mono ?_
          rintro e u ⟨rfl, hb⟩
          have HB : Hid (Below w.heap.size w u) := hb
          clear HC HA2 hb
          go_wp2_with fail
          refine (HD2.out u HB.out).mono ?_
          rintro e u2 ⟨rfl, hb⟩
          have HB2 : Hid (Below w.heap.size w u2) := bsq HB.out hb
          clear HD2 hb HB
          go_wp2
          go_ret
          exact ⟨rfl, HB2.out⟩
    · rw [if_neg h1]
      have e1 : ((t : Int) != (n : Int)) = true := by simp; omega
      clear HA HD h0
      go_enter Try.func17, Try.ntmps17
      go_wp2_with fail
      refine (HC.out).mono ?_
      rintro e u ⟨rfl, rfl⟩
      clear HC
      go_wp2
      go_ret
      exact ⟨rfl, Below.refl _ _⟩
  · have e0 : (z != 0) = true := by simpa using h0
    rw [if_neg h0]
    clear HA HD h0
    go_enter Try.func17, Try.ntmps17
    go_wp2_with fail
    refine (HC.out).mono ?_
    rintro e u ⟨rfl, rfl⟩
    clear HC
    go_wp2
    go_ret
    exact ⟨rfl, Below.refl _ _⟩
end Go.Proofs.Ytcenaleladjakab.budget
