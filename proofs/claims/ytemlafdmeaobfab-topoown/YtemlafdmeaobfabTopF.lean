/- topo: what slices.BinarySearchFunc and copyOfAll answer. -/
import Derived.Test.YtemlafdmeaobfabTopE
namespace Go.Proofs.Ytemlafdmeaobfab.topo
open Go Go.RowKit Go.Proofs.Ytemlafdmeaobfab.route
set_option linter.unusedVariables false
set_option linter.unusedSimpArgs false
set_option maxRecDepth 100000

/-- the place of n in T -/
structure Pla (T : List Nd) (n : Nd) (k : Nat) : Prop where
  le : k ≤ T.length
  fore : ∀ x ∈ T.take k, odr x.1 n.1 < 0
  hind : ∀ x, T[k]? = some x → ¬ odr x.1 n.1 < 0
theorem fore_next {T : List Nd} (hT : T.Pairwise Lt) {n x : Nd} {h : Nat} (hx : T[h]? = some x) (hl : odr x.1 n.1 < 0) : ∀ y ∈ T.take (h + 1), odr y.1 n.1 < 0 := fun y hy => by
  obtain ⟨hh, ex⟩ := List.getElem?_eq_some_iff.1 hx
  obtain ⟨j, hj, ej⟩ := List.mem_take_iff_getElem.1 hy
  rcases (by omega : j < h ∨ j = h) with q | q
  · have := List.pairwise_iff_getElem.1 hT j h (by omega) hh q
    rw [ej, ex] at this
    exact Lt.trans (z := n) this hl
  · subst q
    rw [ex] at ej
    rw [← ej]
    exact hl
set_option maxHeartbeats 4000000 in
theorem search_any (v nv : Value) (L : NL) (n : Nd) (w : World) (h : Rt w v L) (hp : Ris w nv n.1) (hl : L.length ≤ 1000) (hT : (tr L).Pairwise Lt) : Calls Try.prog 17 #[v, agv (ncl nv n), .func (.func 18) #[] #[]] w fun e u => ∃ (k : Nat) (b : Bool), e = .returned (.tuple #[.int .i64 (k : Int), .bool b]) ∧ Pla (tr L) n k ∧ Below w.heap.size w u := by
  obtain ⟨a, c, rfl, hlc, hcm⟩ := h.form
  have HAT : Hid (∀ k q, L[k]? = some q → ∃ g off, a = some ⟨g, off, none⟩ ∧ ∀ u, Below w.heap.size w u → u.rangeAt g (off + k * 4) (ncl q.1 q.2) ∧ Ris u q.1 q.2.1) := fun k q hq => h.at k q hq
  have HOR : Hid (∀ q : Value × Nd, ∀ u, Below w.heap.size w u → Ris u q.1 q.2.1 → Calls Try.prog 18 #[agv (ncl q.1 q.2), agv (ncl nv n)] u fun e u' => e = .returned (.int .i64 (odr q.2.1 n.1)) ∧ Below u.heap.size u u') := fun q u hb hr => order_any2 q.1 nv q.2 n u hr (hp.below hb)
  obtain ⟨m, hm⟩ : ∃ m, L.length = m := ⟨_, rfl⟩
  have HN : Hid (L.length = m ∧ (tr L).length = m) := ⟨hm, by rw [tr_len, hm]⟩
  have HT : Hid ((tr L).Pairwise Lt) := hT
  have eg := enters_of Try.func18 (by kernel_rfl) rfl
  rw [hm] at hlc hl ⊢
  unfold maxLen at hcm
  have hM := Mm.nil w
  clear h hp hm hT
  go_enter Try.func17, Try.ntmps17
  repeat' (first | (go_big_may; first | (refine v_box rfl rfl rfl ?_; intro u xn hN; replace hM := hM.new hN; clear hN)) | go_values | go_skip | go_guarded | go_step | go_upon | (simp only [Int.not_lt, Int.not_le] at *; go_simp))
  have HM : Hid (Mm w u [(xn, 25, ncl nv n)]) := hM
  clear hM
  go_loopw [9, 10, 11] (fun iv jv _ wr => ∃ i j : Nat, i ≤ j ∧ j ≤ m ∧ iv = .int .i64 (i : Int) ∧ jv = .int .i64 (j : Int) ∧ Hid (Mm w wr [(xn, 25, ncl nv n)] ∧ (∀ x ∈ (tr L).take i, odr x.1 n.1 < 0) ∧ (∀ x, (tr L)[j]? = some x → ¬ odr x.1 n.1 < 0))) (fun iv jv _ _ => (intOf jv).toNat - (intOf iv).toNat)
  case atStart => exact ⟨0, m, Nat.zero_le _, Nat.le_refl _, rfl, rfl, HM.out, fun x hx => by simp at hx, fun x hx => by have := (List.getElem?_eq_some_iff.1 hx).1; have := HN.out; omega⟩
  case round =>
    clear HM
    obtain ⟨i, j, hij, hj, rfl, rfl, HA⟩ := hrel
    have HM : Hid (Mm w wr [(xn, 25, ncl nv n)]) := HA.out.1
    have HFo : Hid (∀ x ∈ (tr L).take i, odr x.1 n.1 < 0) := HA.out.2.1
    have HHi : Hid (∀ x, (tr L)[j]? = some x → ¬ odr x.1 n.1 < 0) := HA.out.2.2
    clear HA
    by_cases hlt : ¬ i < j
    · have hij2 : i = j := by omega
      subst hij2
      have HP : Hid (Pla (tr L) n i) := ⟨by have := HN.out; omega, HFo.out, HHi.out⟩
      clear HFo HHi hlt hij
      by_cases him : i < m
      · have dm : decide (i < m) = true := decide_eq_true him
        have dm2 : decide ((i : Int) < (m : Int)) = true := decide_eq_true (by omega)
        obtain ⟨⟨qv, x⟩, hq⟩ : ∃ q, L[i]? = some q := ⟨_, List.getElem?_eq_getElem (by have := HN.out; omega)⟩
        obtain ⟨g, off, rfl, hat⟩ := HAT.out i _ hq
        have HRG : Hid (∀ u, Below w.heap.size w u → u.rangeAt g (off + i * 4) (ncl qv x)) := fun u hb => (hat u hb).1
        have HO2 : Hid (∀ u, Below w.heap.size w u → Calls Try.prog 18 #[agv (ncl qv x), agv (ncl nv n)] u fun e u' => e = .returned (.int .i64 (odr x.1 n.1)) ∧ Below u.heap.size u u') := fun u hb => HOR.out (qv, x) u hb (hat u hb).2
        obtain ⟨z, hz⟩ : ∃ z, odr x.1 n.1 = z := ⟨_, rfl⟩
        simp only [hz] at HO2
        clear HAT HOR hat hq hz
        go_upto_region 8 with (fail)
        refine wp_abs (fun a0 => a0.tmps.size = 49 ∧ (∀ h, a0.tmps[0]'h = .slice (some ⟨g, off, none⟩) m c) ∧ (∀ h, a0.tmps[2]'h = .func (.func 18) #[] #[]) ∧ (∀ h, a0.tmps[4]'h = .pointer (some ⟨xn, 0, none⟩)) ∧ (∀ h, a0.tmps[8]'h = .int .i64 (m : Int)) ∧ (∀ h, a0.tmps[9]'h = .int .i64 (i : Int))) ⟨rfl, fun _ => rfl, fun _ => rfl, fun _ => rfl, fun _ => rfl, fun _ => rfl⟩ ?_
        rintro a0 ⟨hsz, s0, s2, s4, s8, s9⟩ ha0
        refine wp_region_held (S := fun W => Mm w W [(xn, 25, ncl nv n)]) (by kernel_rfl) ?_
        obtain ⟨ud, hud⟩ : ∃ ud, wr.drew = ud := ⟨_, rfl⟩
        have hS0 : Mm w ud [(xn, 25, ncl nv n)] := by rw [← hud]; exact HM.out.drew
        show wpAnyH _ _ _ _ _ _ _ _ wr.drew
        rw [hud]
        refine h_take (i := 0) (.int .i64 (i : Int)) rfl (by kernel_rfl) (by kernel_rfl) (by kernel_rfl) (fun _ _ _ h => h) rfl hS0 (fun W hW => by simp [execOp, go_sem, Act.put, hsz, s0, s2, s4, s8, s9, him, dm, dm2]) ?_
        refine h_take (i := 1) (.int .i64 (i : Int)) rfl (by kernel_rfl) (by kernel_rfl) (by kernel_rfl) (fun _ _ _ h => h) rfl hS0 (fun W hW => by simp [execOp, go_sem, Act.put, hsz, s0, s2, s4, s8, s9, him, dm, dm2]) ?_
        refine h_take (i := 2) (.int .i64 (m : Int)) rfl (by kernel_rfl) (by kernel_rfl) (by kernel_rfl) (fun _ _ _ h => h) rfl hS0 (fun W hW => by simp [execOp, go_sem, Act.put, hsz, s0, s2, s4, s8, s9, him, dm, dm2]) ?_
        refine h_take (i := 3) (.bool true) rfl (by kernel_rfl) (by kernel_rfl) (by kernel_rfl) (fun _ _ _ h => h) rfl hS0 (fun W hW => by simp [execOp, go_sem, Act.put, hsz, s0, s2, s4, s8, s9, him, dm, dm2]) ?_
        refine h_take (i := 4) (.bool true) rfl (by kernel_rfl) (by kernel_rfl) (by kernel_rfl) (fun _ _ _ h => h) rfl hS0 (fun W hW => by simp [execOp, go_sem, Act.put, hsz, s0, s2, s4, s8, s9, him, dm, dm2]) ?_
        refine g_take (i := 5) (.func (.func 18) #[] #[]) rfl (by kernel_rfl) (by kernel_rfl) (by kernel_rfl) (fun _ _ _ h => h) (by simp [Region.wanted, yielded, Act.put, hsz]) hS0 (fun W hW => by simp [execOp, go_sem, Act.put, hsz, s0, s2, s4, s8, s9, him, dm, dm2]) ?_
        refine g_take (i := 6) (.slice (some ⟨g, off, none⟩) m c) rfl (by kernel_rfl) (by kernel_rfl) (by kernel_rfl) (fun _ _ _ h => h) (by simp [Region.wanted, yielded, Act.put, hsz]) hS0 (fun W hW => by simp [execOp, go_sem, Act.put, hsz, s0, s2, s4, s8, s9, him, dm, dm2]) ?_
        refine g_take (i := 7) (.int .i64 (i : Int)) rfl (by kernel_rfl) (by kernel_rfl) (by kernel_rfl) (fun _ _ _ h => h) (by simp [Region.wanted, yielded, Act.put, hsz]) hS0 (fun W hW => by simp [execOp, go_sem, Act.put, hsz, s0, s2, s4, s8, s9, him, dm, dm2]) ?_
        refine g_take (i := 8) (.pointer (some ⟨g, off + i * 4, none⟩)) rfl (by kernel_rfl) (by kernel_rfl) (by kernel_rfl) (fun _ _ _ h => h) (by simp [Region.wanted, yielded, Act.put, hsz]) hS0 (fun W hW => by simp [execOp, go_sem, Act.put, hsz, s0, s2, s4, s8, s9, him, dm, dm2]) ?_
        refine g_take (i := 9) (agv (ncl qv x)) rfl (by kernel_rfl) (by kernel_rfl) (by kernel_rfl) (fun _ _ _ h => h) (by simp [Region.wanted, yielded, Act.put, hsz]) hS0 (fun W hW => ex_ldR rfl row_node (by simp [go_sem, Act.put, hsz]) (HRG.out W hW.below) rfl) ?_
        refine g_take (i := 10) (agv (ncl nv n)) rfl (by kernel_rfl) (by kernel_rfl) (by kernel_rfl) (fun _ _ _ h => h) (by simp [Region.wanted, yielded, Act.put, hsz]) hS0 (fun W hW => ex_loadv rfl row_node (by simp [go_sem, Act.put, hsz, s4]) hW.at0 (Nat.le_refl 4) rfl) ?_
        refine g_call (i := 11) 18 #[agv (ncl qv x), agv (ncl nv n)] rfl (by kernel_rfl) (by simp [Region.wanted, yielded, Act.put, hsz]) (by simp [execOp, go_sem, Act.put, hsz, s0, s2, s4, s8, s9, him, dm, dm2, eg]) ((HO2.out _ hS0.below).mono ?_)
        rintro e u6 ⟨rfl, hb6⟩
        have hS6 := hS0.call hb6
        refine ⟨_, rfl, hS6, ?_⟩
        refine g_take (i := 12) (.bool (z == 0)) rfl (by kernel_rfl) (by kernel_rfl) (by kernel_rfl) (fun _ _ _ h => h) (by simp [Region.wanted, yielded, Act.put, hsz]) hS6 (fun W hW => by simp [execOp, go_sem, Act.put, hsz]) ?_
        refine h_take (i := 13) (.bool (z == 0)) rfl (by kernel_rfl) (by kernel_rfl) (by kernel_rfl) (fun _ _ _ h => h) rfl hS6 (fun W hW => by simp [execOp, go_sem, Act.put, hsz]) ?_
        refine h_take (i := 14) (.int .i64 (i : Int)) rfl (by kernel_rfl) (by kernel_rfl) (by kernel_rfl) (fun _ _ _ h => h) rfl hS6 (fun W hW => by simp [execOp, go_sem, Act.put, hsz]) ?_
        refine h_take (i := 15) (.bool (z == 0)) rfl (by kernel_rfl) (by kernel_rfl) (by kernel_rfl) (fun _ _ _ h => h) rfl hS6 (fun W hW => by simp [execOp, go_sem, Act.put, hsz]) ?_
        refine wpAnyH_done (by kernel_rfl) ?_ _
        subst ha0
        have HB6 : Hid (Below w.heap.size w u6) := hS6.below
        clear hsz s0 s2 s4 s8 s9 hS0 hS6 hb6 hud HM HO2 HRG
        go_simp
        go_wp2
        go_ret2
        exact ⟨_, _, rfl, HP.out, HB6.out⟩
      · have dm : decide (i < m) = false := decide_eq_false him
        have dm2 : decide ((i : Int) < (m : Int)) = false := decide_eq_false (by omega)
        clear HAT HOR
        go_upto_region 8 with (fail)
        refine wp_abs (fun a0 => a0.tmps.size = 49 ∧ (∀ h, a0.tmps[8]'h = .int .i64 (m : Int)) ∧ (∀ h, a0.tmps[9]'h = .int .i64 (i : Int))) ⟨rfl, fun _ => rfl, fun _ => rfl⟩ ?_
        rintro a0 ⟨hsz, s8, s9⟩ ha0
        refine wp_region_held (S := fun W => Mm w W [(xn, 25, ncl nv n)]) (by kernel_rfl) ?_
        obtain ⟨ud, hud⟩ : ∃ ud, wr.drew = ud := ⟨_, rfl⟩
        have hS0 : Mm w ud [(xn, 25, ncl nv n)] := by rw [← hud]; exact HM.out.drew
        show wpAnyH _ _ _ _ _ _ _ _ wr.drew
        rw [hud]
        refine h_take (i := 0) (.int .i64 (i : Int)) rfl (by kernel_rfl) (by kernel_rfl) (by kernel_rfl) (fun _ _ _ h => h) rfl hS0 (fun W hW => by simp [execOp, go_sem, Act.put, hsz, s8, s9, him, dm, dm2]) ?_
        refine h_take (i := 1) (.int .i64 (i : Int)) rfl (by kernel_rfl) (by kernel_rfl) (by kernel_rfl) (fun _ _ _ h => h) rfl hS0 (fun W hW => by simp [execOp, go_sem, Act.put, hsz, s8, s9, him, dm, dm2]) ?_
        refine h_take (i := 2) (.int .i64 (m : Int)) rfl (by kernel_rfl) (by kernel_rfl) (by kernel_rfl) (fun _ _ _ h => h) rfl hS0 (fun W hW => by simp [execOp, go_sem, Act.put, hsz, s8, s9, him, dm, dm2]) ?_
        refine h_take (i := 3) (.bool false) rfl (by kernel_rfl) (by kernel_rfl) (by kernel_rfl) (fun _ _ _ h => h) rfl hS0 (fun W hW => by simp [execOp, go_sem, Act.put, hsz, s8, s9, him, dm, dm2]) ?_
        refine h_take (i := 4) (.bool false) rfl (by kernel_rfl) (by kernel_rfl) (by kernel_rfl) (fun _ _ _ h => h) rfl hS0 (fun W hW => by simp [execOp, go_sem, Act.put, hsz, s8, s9, him, dm, dm2]) ?_
        refine g_pass (i := 5) rfl (by kernel_rfl) (by kernel_rfl) (by kernel_rfl) (fun _ _ _ h => h) (by simp [Region.wanted, yielded, Act.put, hsz]) hS0 ?_
        refine g_pass (i := 6) rfl (by kernel_rfl) (by kernel_rfl) (by kernel_rfl) (fun _ _ _ h => h) (by simp [Region.wanted, yielded, Act.put, hsz]) hS0 ?_
        refine g_pass (i := 7) rfl (by kernel_rfl) (by kernel_rfl) (by kernel_rfl) (fun _ _ _ h => h) (by simp [Region.wanted, yielded, Act.put, hsz]) hS0 ?_
        refine g_pass (i := 8) rfl (by kernel_rfl) (by kernel_rfl) (by kernel_rfl) (fun _ _ _ h => h) (by simp [Region.wanted, yielded, Act.put, hsz]) hS0 ?_
        refine g_pass (i := 9) rfl (by kernel_rfl) (by kernel_rfl) (by kernel_rfl) (fun _ _ _ h => h) (by simp [Region.wanted, yielded, Act.put, hsz]) hS0 ?_
        refine g_pass (i := 10) rfl (by kernel_rfl) (by kernel_rfl) (by kernel_rfl) (fun _ _ _ h => h) (by simp [Region.wanted, yielded, Act.put, hsz]) hS0 ?_
        refine g_none (i := 11) rfl (by kernel_rfl) (by simp [Region.wanted, yielded, Act.put, hsz]) hS0 ?_
        refine g_pass (i := 12) rfl (by kernel_rfl) (by kernel_rfl) (by kernel_rfl) (fun _ _ _ h => h) (by simp [Region.wanted, yielded, Act.put, hsz]) hS0 ?_
        refine h_take (i := 13) (.bool false) rfl (by kernel_rfl) (by kernel_rfl) (by kernel_rfl) (fun _ _ _ h => h) rfl hS0 (fun W hW => by simp [execOp, go_sem, Act.put, hsz, s8, s9, him, dm, dm2]) ?_
        refine h_take (i := 14) (.int .i64 (i : Int)) rfl (by kernel_rfl) (by kernel_rfl) (by kernel_rfl) (fun _ _ _ h => h) rfl hS0 (fun W hW => by simp [execOp, go_sem, Act.put, hsz, s8, s9, him, dm, dm2]) ?_
        refine h_take (i := 15) (.bool false) rfl (by kernel_rfl) (by kernel_rfl) (by kernel_rfl) (fun _ _ _ h => h) rfl hS0 (fun W hW => by simp [execOp, go_sem, Act.put, hsz, s8, s9, him, dm, dm2]) ?_
        refine wpAnyH_done (by kernel_rfl) ?_ _
        subst ha0
        have HB6 : Hid (Below w.heap.size w ud) := hS0.below
        clear hsz s8 s9 hS0 hud HM
        go_simp
        go_wp2
        go_ret2
        exact ⟨_, _, rfl, HP.out, HB6.out⟩
    have hlt : i < j := by omega
    obtain ⟨h, hh⟩ : ∃ h, (i + j) / 2 = h := ⟨_, rfl⟩
    have hh1 : i ≤ h := by omega
    have hh2 : h < j := by omega
    have s1 : ((i : Int) + (j : Int)) / 2 = (h : Int) := by omega
    have hhn : h < m := by omega
    obtain ⟨⟨qv, x⟩, hq⟩ : ∃ q, L[h]? = some q := ⟨_, List.getElem?_eq_getElem (by have := HN.out; omega)⟩
    obtain ⟨g, off, rfl, hat⟩ := HAT.out h _ hq
    have HRG : Hid (∀ u, Below w.heap.size w u → u.rangeAt g (off + h * 4) (ncl qv x)) := fun u hb => (hat u hb).1
    have HO2 : Hid (∀ u, Below w.heap.size w u → Calls Try.prog 18 #[agv (ncl qv x), agv (ncl nv n)] u fun e u' => e = .returned (.int .i64 (odr x.1 n.1)) ∧ Below u.heap.size u u') := fun u hb => HOR.out (qv, x) u hb (hat u hb).2
    have HT1 : Hid (odr x.1 n.1 < 0 → ∀ y ∈ (tr L).take (h + 1), odr y.1 n.1 < 0) := fun q => fore_next HT.out (tr_at hq) q
    have HT2 : Hid (¬ odr x.1 n.1 < 0 → ∀ y, (tr L)[h]? = some y → ¬ odr y.1 n.1 < 0) := fun q y hy => by
      rw [tr_at hq] at hy
      injection hy with hy
      rw [← hy]
      exact q
    obtain ⟨z, hz⟩ : ∃ z, odr x.1 n.1 = z := ⟨_, rfl⟩
    simp only [hz] at HO2 HT1 HT2
    clear HAT HOR hat hq hz hh HT
    go_upto_region 5 with (fail)
    refine wp_abs (fun a0 => a0.tmps.size = 49 ∧ (∀ h, a0.tmps[0]'h = .slice (some ⟨g, off, none⟩) m c) ∧ (∀ h, a0.tmps[2]'h = .func (.func 18) #[] #[]) ∧ (∀ h, a0.tmps[4]'h = .pointer (some ⟨xn, 0, none⟩)) ∧ (∀ hq, a0.tmps[11]'hq = .int .i64 (h : Int))) ⟨rfl, fun _ => rfl, fun _ => rfl, fun _ => rfl, fun _ => rfl⟩ ?_
    rintro a0 ⟨hsz, s0, s2, s4, s11⟩ ha0
    refine wp_region_held (S := fun W => Mm w W [(xn, 25, ncl nv n)]) (by kernel_rfl) ?_
    obtain ⟨ud, hud⟩ : ∃ ud, wr.drew = ud := ⟨_, rfl⟩
    have hS0 : Mm w ud [(xn, 25, ncl nv n)] := by rw [← hud]; exact HM.out.drew
    show wpAnyH _ _ _ _ _ _ _ _ wr.drew
    rw [hud]
    refine h_take (i := 0) (.func (.func 18) #[] #[]) rfl (by kernel_rfl) (by kernel_rfl) (by kernel_rfl) (fun _ _ _ h => h) rfl hS0 (fun W hW => by simp [execOp, go_sem, Act.put, hsz, s0, s2, s4, s11, hhn]) ?_
    refine h_take (i := 1) (.slice (some ⟨g, off, none⟩) m c) rfl (by kernel_rfl) (by kernel_rfl) (by kernel_rfl) (fun _ _ _ h => h) rfl hS0 (fun W hW => by simp [execOp, go_sem, Act.put, hsz, s0, s2, s4, s11, hhn]) ?_
    refine h_take (i := 2) (.int .i64 (h : Int)) rfl (by kernel_rfl) (by kernel_rfl) (by kernel_rfl) (fun _ _ _ h => h) rfl hS0 (fun W hW => by simp [execOp, go_sem, Act.put, hsz, s0, s2, s4, s11, hhn]) ?_
    refine h_take (i := 3) (.pointer (some ⟨g, off + h * 4, none⟩)) rfl (by kernel_rfl) (by kernel_rfl) (by kernel_rfl) (fun _ _ _ h => h) rfl hS0 (fun W hW => by simp [execOp, go_sem, Act.put, hsz, s0, s2, s4, s11, hhn]) ?_
    refine h_take (i := 4) (agv (ncl qv x)) rfl (by kernel_rfl) (by kernel_rfl) (by kernel_rfl) (fun _ _ _ h => h) rfl hS0 (fun W hW => ex_ldR rfl row_node (by simp [go_sem, Act.put, hsz]) (HRG.out W hW.below) rfl) ?_
    refine h_take (i := 5) (agv (ncl nv n)) rfl (by kernel_rfl) (by kernel_rfl) (by kernel_rfl) (fun _ _ _ h => h) rfl hS0 (fun W hW => ex_loadv rfl row_node (by simp [go_sem, Act.put, hsz, s4]) hW.at0 (Nat.le_refl 4) rfl) ?_
    refine h_call (i := 6) 18 #[agv (ncl qv x), agv (ncl nv n)] rfl (by kernel_rfl) rfl (by simp [execOp, go_sem, Act.put, hsz, s0, s2, s4, s11, hhn, eg]) ((HO2.out _ hS0.below).mono ?_)
    rintro e u6 ⟨rfl, hb6⟩
    have hS6 := hS0.call hb6
    refine ⟨_, rfl, hS6, ?_⟩
    by_cases hneg : z < 0
    · have en : decide (z < 0) = true := decide_eq_true hneg
      have HQ : Hid (Mm w u6 [(xn, 25, ncl nv n)] ∧ (∀ y ∈ (tr L).take (h + 1), odr y.1 n.1 < 0) ∧ (∀ x, (tr L)[j]? = some x → ¬ odr x.1 n.1 < 0)) := ⟨hS6, HT1.out hneg, HHi.out⟩
      refine h_take (i := 7) (.bool true) rfl (by kernel_rfl) (by kernel_rfl) (by kernel_rfl) (fun _ _ _ h => h) rfl hS6 (fun W hW => by simp [execOp, go_sem, Act.put, hsz, en]) ?_
      refine wpAnyH_done (by kernel_rfl) ?_ _
      subst ha0
      clear hsz s0 s2 s4 s11 hS0 hS6 hb6 hud HM HO2 HRG HT1 HT2 HFo HHi en hneg
      go_simp
      go_wp2
      go_roundw
      case rel => exact ⟨h + 1, j, by omega, hj, by go_num, rfl, HQ.out⟩
      case measure => simp [intOf]; omega
    · have en : decide (z < 0) = false := decide_eq_false hneg
      have HQ : Hid (Mm w u6 [(xn, 25, ncl nv n)] ∧ (∀ y ∈ (tr L).take i, odr y.1 n.1 < 0) ∧ (∀ x, (tr L)[h]? = some x → ¬ odr x.1 n.1 < 0)) := ⟨hS6, HFo.out, HT2.out hneg⟩
      refine h_take (i := 7) (.bool false) rfl (by kernel_rfl) (by kernel_rfl) (by kernel_rfl) (fun _ _ _ h => h) rfl hS6 (fun W hW => by simp [execOp, go_sem, Act.put, hsz, en]) ?_
      refine wpAnyH_done (by kernel_rfl) ?_ _
      subst ha0
      clear hsz s0 s2 s4 s11 hS0 hS6 hb6 hud HM HO2 HRG HT1 HT2 HFo HHi en hneg
      go_simp
      go_wp2
      go_roundw
      case rel => exact ⟨i, h, by omega, by omega, rfl, rfl, HQ.out⟩
      case measure => simp [intOf]; omega
end Go.Proofs.Ytemlafdmeaobfab.topo
