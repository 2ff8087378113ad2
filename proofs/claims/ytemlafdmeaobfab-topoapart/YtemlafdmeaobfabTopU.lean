/- topo: what plugref's Tree answers. -/
import Derived.Test.YtemlafdmeaobfabTopT
import Derived.Test.YtemlafdmeaobfabRouJ
namespace Go.Proofs.Ytemlafdmeaobfab.topo
open Go Go.RowKit Go.Proofs.Ytemlafdmeaobfab.route
set_option linter.unusedVariables false
set_option linter.unusedSimpArgs false
set_option maxRecDepth 100000

theorem any_at2 {α : Type} {l : List α} {k : Nat} {y : α} {f : α → Bool} (h : l[k]? = some y) : (l.drop k).any f = (f y || (l.drop (k + 1)).any f) := by
  have hk := (List.getElem?_eq_some_iff.1 h).1
  rw [List.drop_eq_getElem_cons hk, (List.getElem?_eq_some_iff.1 h).2, List.any_cons]
theorem bef_is (a b : List Int) : bef a b = decide (odr a b < 0) := rfl
theorem all_congr {α : Type} {l : List α} {f g : α → Bool} (h : ∀ x ∈ l, f x = g x) : l.all f = l.all g := by
  induction l with
  | nil => rfl
  | cons a r ih => rw [List.all_cons, List.all_cons, h a (by simp), ih fun x hx => h x (by simp [hx])]
set_option maxHeartbeats 8000000 in
theorem tree_any (v : Value) (L : NL) (w : World) (h : Rt w v L) : Calls Try.prog 11 #[v] w fun e u => e = .returned (.int .i64 (chkT (tr L))) ∧ Below w.heap.size w u := by
  have HND : Hid (∀ q : Value × Nd, ∀ u, Ris u q.1 q.2.1 → Calls Try.prog 27 #[agv (ncl q.1 q.2)] u fun e u' => e = .returned (.bool (!wrg q.2)) ∧ Below u.heap.size u u') := fun q u hr => node_any q.1 q.2 u hr
  have HBF : Hid (∀ u v1 v2 p1 p2, Ris u v1 p1 → Ris u v2 p2 → Calls Try.prog 28 #[v1, v2] u fun e u' => e = .returned (.bool (decide (odr p1 p2 < 0))) ∧ Below u.heap.size u u') := fun u v1 v2 p1 p2 h1 h2 => (before_any p1 p2 v1 v2 u h1 h2).mono fun e u' ⟨he, m, hw⟩ => ⟨by rw [he, bef_is], by rw [hw]; exact below_drewN (Below.refl _ _) m⟩
  have HFI : Hid ((tr L).any wrg = false → ∀ q ∈ L, ∀ u, Below w.heap.size w u → Ris u q.1 q.2.1 → Calls Try.prog 29 #[v, agv (ncl q.1 q.2)] u fun e u' => e = .returned (.bool (rfit (tr L) q.2)) ∧ Below u.heap.size u u') := fun hA q hq u hb hr => by
    have hg := any_no hA q.2 (List.mem_map.2 ⟨q, hq, rfl⟩)
    exact rfits_any v q.1 L q.2 u (h.below hb) hr (chk_ok hg.1).1 (chk_ok hg.1).2.1
  obtain ⟨a, c, rfl, hlc, hcm⟩ := h.form
  have HAT : Hid (∀ k q, L[k]? = some q → ∃ g off, a = some ⟨g, off, none⟩ ∧ ∀ u, Below w.heap.size w u → u.rangeAt g (off + k * 4) (ncl q.1 q.2) ∧ Ris u q.1 q.2.1) := fun k q hq => h.at k q hq
  have HAL : Hid ((tr L).any wrg = false → inO (tr L) = true → (tr L).all (rfit (tr L)) = (tr L).all (fit (tr L))) := fun hA hB => all_congr fun n hn => rfit_is ((inO_iff _).1 hB) (any_no hA) (any_no hA n hn).1
  obtain ⟨l, hl⟩ : ∃ l, L.length = l := ⟨_, rfl⟩
  have HL : Hid (L.length = l ∧ (tr L).length = l) := ⟨hl, by rw [tr_len]; exact hl⟩
  obtain ⟨res, hres⟩ : ∃ r, chkT (tr L) = r := ⟨_, rfl⟩
  rw [hres]
  unfold chkT at hres
  rw [tr_len, hl] at hres
  obtain ⟨A, hA⟩ : ∃ b, (tr L).any wrg = b := ⟨_, rfl⟩
  obtain ⟨B, hB⟩ : ∃ b, inO (tr L) = b := ⟨_, rfl⟩
  obtain ⟨C, hC⟩ : ∃ b, (tr L).all (fit (tr L)) = b := ⟨_, rfl⟩
  have HA0 : Hid (((tr L).drop 0).any wrg = A) := hA
  have HB0 : Hid (inO ((tr L).drop (0 - 1)) = B) := hB
  simp only [hl, hA, hB, hC] at HFI HAL hres hlc ⊢
  unfold maxLen at hcm
  clear h hl hA hB hC
  by_cases h40 : 40 < l
  · rw [if_pos h40] at hres
    subst hres
    clear HND HBF HFI HAT HAL HA0 HB0
    go_enter Try.func11, Try.ntmps11
    go_wp2
    go_ret
    exact ⟨rfl, Below.refl _ _⟩
  rw [if_neg h40] at hres
  have hl40 : l ≤ 40 := by omega
  have HR1 : Hid (A = true → res = 1) := fun e => by rw [if_pos e] at hres; exact hres.symm
  have HR2 : Hid (A = false → B = false → res = 4) := fun e1 e2 => by rw [if_neg (by rw [e1]; simp), if_pos e2] at hres; exact hres.symm
  have HR3 : Hid (A = false → B = true → C = false → res = 12) := fun e1 e2 e3 => by rw [if_neg (by rw [e1]; simp), if_neg (by rw [e2]; simp), if_pos e3] at hres; exact hres.symm
  have HR4 : Hid (A = false → B = true → C = true → res = 0) := fun e1 e2 e3 => by rw [if_neg (by rw [e1]; simp), if_neg (by rw [e2]; simp), if_neg (by rw [e3]; simp)] at hres; exact hres.symm
  clear hres
  go_enter Try.func11, Try.ntmps11
  go_wp2
  go_loopw [4, 14] (fun _ i wr => ∃ k : Nat, k ≤ l ∧ i = .int .i64 (k : Int) ∧ Hid (Mm w wr [] ∧ ((tr L).drop k).any wrg = A)) (fun _ i _ => l - (intOf i).toNat)
  case atStart => exact ⟨0, Nat.zero_le _, rfl, Mm.nil w, HA0.out⟩
  case round =>
    clear HA0
    obtain ⟨k, hk, rfl, HA⟩ := hrel
    have HM : Hid (Mm w wr []) := HA.out.1
    have HO : Hid (((tr L).drop k).any wrg = A) := HA.out.2
    clear HA
    by_cases hlt : k < l
    · obtain ⟨⟨qv, y⟩, hq⟩ : ∃ q, L[k]? = some q := ⟨_, List.getElem?_eq_getElem (by have := HL.out; omega)⟩
      obtain ⟨g, off, rfl, hat⟩ := HAT.out k _ hq
      have HRG : Hid (∀ u, Below w.heap.size w u → u.rangeAt g (off + k * 4) (ncl qv y)) := fun u hb => (hat u hb).1
      have HVQ : Hid (Vs (ncl qv y) 4) := ncl_vs y (ris_one (hat w (Below.refl _ _)).2)
      have HN2 : Hid (∀ u, Below w.heap.size w u → Calls Try.prog 27 #[agv (ncl qv y)] u fun e u' => e = .returned (.bool (!wrg y)) ∧ Below u.heap.size u u') := fun u hb => HND.out (qv, y) u (hat u hb).2
      have HO2 : Hid ((wrg y || ((tr L).drop (k + 1)).any wrg) = A) := by rw [← any_at2 (tr_at hq)]; exact HO.out
      obtain ⟨b, hb⟩ : ∃ b, wrg y = b := ⟨_, rfl⟩
      simp only [hb] at HN2 HO2
      have hM := HM.out
      clear HO HM HND HBF HFI HAT HAL HB0 HR2 HR3 HR4 hat hq hb
      repeat' (first | (go_big_may; first | (refine v_ldR rfl rfl row_node rfl (HRG.out _ hM.below) rfl ?_) | (refine v_alloc rfl zer_node rfl ?_; intro u xn hN; replace hM := hM.new hN; clear hN) | (refine v_fill rfl rfl row_node rfl rfl hM.at0 HVQ.out rfl ?_; intro u hv hc; replace hM := hM.put0 hc hv; clear hv hc) | (refine v_load rfl rfl row_node rfl hM.at0 (Nat.le_refl 4) rfl ?_)) | go_values | go_skip | go_guarded | go_step | go_upon | (simp only [Int.not_lt, Int.not_le] at *; go_simp))
      refine (HN2.out _ hM.below).mono ?_
      rintro e u1 ⟨rfl, hb⟩
      replace hM := hM.call hb
      clear hb HN2 HRG
      cases b with
      | true =>
        have HQ : Hid (res = 1) := HR1.out (by have := HO2.out; rw [Bool.true_or] at this; exact this.symm)
        clear HO2 HR1
        repeat' (first | go_values | go_skip | go_guarded | go_step | go_upon | (simp only [Int.not_lt, Int.not_le] at *; go_simp))
        go_ret
        rw [HQ.out]
        exact ⟨rfl, hM.below⟩
      | false =>
        have HQ : Hid (((tr L).drop (k + 1)).any wrg = A) := by have := HO2.out; rw [Bool.false_or] at this; exact this
        have HS : Hid (Mm w u1 []) := hM.sub (by simp)
        clear HO2 HR1 hM
        repeat' (first | go_values | go_skip | go_guarded | go_step | go_upon | (simp only [Int.not_lt, Int.not_le] at *; go_simp))
        go_roundw
        case rel => exact ⟨k + 1, by omega, by go_num, HS.out, HQ.out⟩
        case measure => simp [intOf]; omega
    have hA : A = false := by
      rw [← HO.out, List.drop_eq_nil_of_le (by have := HL.out; omega)]
      rfl
    subst hA
    have HFI2 : Hid (∀ q ∈ L, ∀ u, Below w.heap.size w u → Ris u q.1 q.2.1 → Calls Try.prog 29 #[.slice a l c, agv (ncl q.1 q.2)] u fun e u' => e = .returned (.bool (rfit (tr L) q.2)) ∧ Below u.heap.size u u') := HFI.out (by first | rfl | trivial)
    have HAL2 : Hid (B = true → (tr L).all (rfit (tr L)) = C) := HAL.out (by first | rfl | trivial)
    have HR2b : Hid (B = false → res = 4) := HR2.out (by first | rfl | trivial)
    have HR3b : Hid (B = true → C = false → res = 12) := HR3.out (by first | rfl | trivial)
    have HR4b : Hid (B = true → C = true → res = 0) := HR4.out (by first | rfl | trivial)
    have HM0 : Hid (Mm w wr []) := HM.out
    clear HO HM HND HFI HAL HR1 HR2 HR3 HR4
    rename World => wo
    go_wp2
    clear hlt hk
    go_loopw [5, 6, 24] (fun _ _ i wr => ∃ j : Nat, j ≤ l ∧ i = .int .i64 (j : Int) ∧ Hid (Mm w wr [] ∧ inO ((tr L).drop (j - 1)) = B)) (fun _ _ i _ => l - (intOf i).toNat)
    case atStart => exact ⟨0, Nat.zero_le _, rfl, HM0.out, HB0.out⟩
    case round =>
      clear HB0 HM0
      obtain ⟨j, hj, rfl, HA⟩ := hrel
      have HM : Hid (Mm w wr []) := HA.out.1
      have HO : Hid (inO ((tr L).drop (j - 1)) = B) := HA.out.2
      clear HA
      by_cases hlt : j < l
      · obtain ⟨⟨qv, y⟩, hq⟩ : ∃ q, L[j]? = some q := ⟨_, List.getElem?_eq_getElem (by have := HL.out; omega)⟩
        obtain ⟨g, off, rfl, hat⟩ := HAT.out j _ hq
        have HRG : Hid (∀ u, Below w.heap.size w u → u.rangeAt g (off + j * 4) (ncl qv y)) := fun u hb => (hat u hb).1
        have HRI : Hid (∀ u, Below w.heap.size w u → Ris u qv y.1) := fun u hb => (hat u hb).2
        have HVQ : Hid (Vs (ncl qv y) 4) := ncl_vs y (ris_one (hat w (Below.refl _ _)).2)
        have hM := HM.out
        clear HM HFI2 HAL2 HR3b HR4b hat
        repeat' (first | (go_big_may; first | (refine v_ldR rfl rfl row_node rfl (HRG.out _ hM.below) rfl ?_) | (refine v_alloc rfl zer_node rfl ?_; intro u xn hN; replace hM := hM.new hN; clear hN) | (refine v_fill rfl rfl row_node rfl rfl hM.at0 HVQ.out rfl ?_; intro u hv hc; replace hM := hM.put0 hc hv; clear hv hc)) | go_values | go_skip | go_guarded | go_step | go_upon | (simp only [Int.not_lt, Int.not_le] at *; go_simp))
        have HM : Hid (Mm w u [(xn, 25, ncl qv y)]) := hM
        clear hM HRG HVQ
        by_cases hj0 : j = 0
        · subst hj0
          have dz : decide ((0 : Int) < ((0 : Nat) : Int)) = false := rfl
          have dz2 : decide ((0 : Int) < (0 : Int)) = false := rfl
          clear HAT HBF HR2b HRI hq
          go_upto_region 12 with (fail)
          refine wp_abs (fun a0 => a0.tmps.size = 55 ∧ (∀ h, a0.tmps[5]'h = .int .i64 ((0 : Nat) : Int))) ⟨rfl, fun _ => rfl⟩ ?_
          rintro a0 ⟨hsz, s5⟩ ha0
          refine wp_region_held (S := fun W => Mm w W [(xn, 25, ncl qv y)]) (by kernel_rfl) ?_
          obtain ⟨ud, hud⟩ : ∃ ud, u.drew = ud := ⟨_, rfl⟩
          have hS0 : Mm w ud [(xn, 25, ncl qv y)] := by rw [← hud]; exact HM.out.drew
          show wpAnyH _ _ _ _ _ _ _ _ u.drew
          rw [hud]
          refine h_take (i := 0) (.int .i64 ((0 : Nat) : Int)) rfl (by kernel_rfl) (by kernel_rfl) (by kernel_rfl) (fun _ _ _ h => h) rfl hS0 (fun W hW => by simp [execOp, go_sem, Act.put, hsz, s5, dz, dz2]) ?_
          refine h_take (i := 1) (.bool false) rfl (by kernel_rfl) (by kernel_rfl) (by kernel_rfl) (fun _ _ _ h => h) rfl hS0 (fun W hW => by simp [execOp, go_sem, Act.put, hsz, s5, dz, dz2]) ?_
          refine h_take (i := 2) (.bool false) rfl (by kernel_rfl) (by kernel_rfl) (by kernel_rfl) (fun _ _ _ h => h) rfl hS0 (fun W hW => by simp [execOp, go_sem, Act.put, hsz, s5, dz, dz2]) ?_
          refine g_pass (i := 3) rfl (by kernel_rfl) (by kernel_rfl) (by kernel_rfl) (fun _ _ _ h => h) (by simp [Region.wanted, yielded, Act.put, hsz]) hS0 ?_
          refine g_pass (i := 4) rfl (by kernel_rfl) (by kernel_rfl) (by kernel_rfl) (fun _ _ _ h => h) (by simp [Region.wanted, yielded, Act.put, hsz]) hS0 ?_
          refine g_pass (i := 5) rfl (by kernel_rfl) (by kernel_rfl) (by kernel_rfl) (fun _ _ _ h => h) (by simp [Region.wanted, yielded, Act.put, hsz]) hS0 ?_
          refine g_pass (i := 6) rfl (by kernel_rfl) (by kernel_rfl) (by kernel_rfl) (fun _ _ _ h => h) (by simp [Region.wanted, yielded, Act.put, hsz]) hS0 ?_
          refine g_pass (i := 7) rfl (by kernel_rfl) (by kernel_rfl) (by kernel_rfl) (fun _ _ _ h => h) (by simp [Region.wanted, yielded, Act.put, hsz]) hS0 ?_
          refine g_pass (i := 8) rfl (by kernel_rfl) (by kernel_rfl) (by kernel_rfl) (fun _ _ _ h => h) (by simp [Region.wanted, yielded, Act.put, hsz]) hS0 ?_
          refine g_pass (i := 9) rfl (by kernel_rfl) (by kernel_rfl) (by kernel_rfl) (fun _ _ _ h => h) (by simp [Region.wanted, yielded, Act.put, hsz]) hS0 ?_
          refine g_pass (i := 10) rfl (by kernel_rfl) (by kernel_rfl) (by kernel_rfl) (fun _ _ _ h => h) (by simp [Region.wanted, yielded, Act.put, hsz]) hS0 ?_
          refine g_none (i := 11) rfl (by kernel_rfl) (by simp [Region.wanted, yielded, Act.put, hsz]) hS0 ?_
          refine g_pass (i := 12) rfl (by kernel_rfl) (by kernel_rfl) (by kernel_rfl) (fun _ _ _ h => h) (by simp [Region.wanted, yielded, Act.put, hsz]) hS0 ?_
          refine h_take (i := 13) (.bool false) rfl (by kernel_rfl) (by kernel_rfl) (by kernel_rfl) (fun _ _ _ h => h) rfl hS0 (fun W hW => by simp [execOp, go_sem, Act.put, hsz, s5, dz, dz2]) ?_
          refine wpAnyH_done (by kernel_rfl) ?_ _
          subst ha0
          have HQ : Hid (Mm w ud [] ∧ inO ((tr L).drop (0 + 1 - 1)) = B) := ⟨hS0.sub (by simp), HO.out⟩
          clear hsz s5 hS0 hud HM HO
          go_simp
          go_wp2
          go_roundw
          case rel => exact ⟨0 + 1, by omega, by go_num, HQ.out⟩
          case measure => simp [intOf]; omega
        obtain ⟨i, hi⟩ : ∃ i, j = i + 1 := ⟨j - 1, by omega⟩
        obtain ⟨⟨qv2, y2⟩, hq2⟩ : ∃ q, L[i]? = some q := ⟨_, List.getElem?_eq_getElem (by have := HL.out; omega)⟩
        obtain ⟨g', off', e, hat2⟩ := HAT.out i _ hq2
        injection e with e
        injection e with e1 e2 _
        subst e1 e2
        have HR2 : Hid (∀ u, Below w.heap.size w u → u.cell? ⟨g, off + i * 4, none⟩ = some qv2) := fun u hb => (hat2 u hb).1 0 _ rfl
        have hio : inO ((tr L).drop (j - 1)) = (decide (odr y2.1 y.1 < 0) && inO ((tr L).drop j)) := by
          rw [hi, Nat.add_sub_cancel]
          exact inO_at (tr_at hq2) (by rw [← hi]; exact tr_at hq)
        have HO2 : Hid ((decide (odr y2.1 y.1 < 0) && inO ((tr L).drop j)) = B) := by rw [← hio]; exact HO.out
        have HB2 : Hid (∀ u, Below w.heap.size w u → Calls Try.prog 28 #[qv2, qv] u fun e u' => e = .returned (.bool (decide (odr y2.1 y.1 < 0))) ∧ Below u.heap.size u u') := fun u hb => HBF.out u qv2 qv y2.1 y.1 (hat2 u hb).2 (HRI.out u hb)
        obtain ⟨b, hb⟩ : ∃ b, decide (odr y2.1 y.1 < 0) = b := ⟨_, rfl⟩
        simp only [hb] at HO2 HB2
        have hji : (j : Int) - 1 = (i : Int) := by omega
        have hil : i < l := by omega
        have hj1 : j ≤ 40 := by omega
        have dz : decide ((0 : Int) < (j : Int)) = true := decide_eq_true (by omega)
        have dz2 : decide (0 < j) = true := decide_eq_true (by omega)
        have wi : IntKind.i64.wrap (i : Int) = (i : Int) := by rw [IntKind.wrap_i64]; omega
        clear HAT HBF HRI hq hq2 hat2 hio HO hb hi hj0
        go_upto_region 12 with (fail)
        refine wp_abs (fun a0 => a0.tmps.size = 55 ∧ (∀ h, a0.tmps[0]'h = .slice (some ⟨g, off, none⟩) l c) ∧ (∀ h, a0.tmps[5]'h = .int .i64 (j : Int)) ∧ (∀ h, a0.tmps[6]'h = .pointer (some ⟨xn, 0, none⟩))) ⟨rfl, fun _ => rfl, fun _ => rfl, fun _ => rfl⟩ ?_
        rintro a0 ⟨hsz, s0, s5, s6⟩ ha0
        refine wp_region_held (S := fun W => Mm w W [(xn, 25, ncl qv y)]) (by kernel_rfl) ?_
        obtain ⟨ud, hud⟩ : ∃ ud, u.drew = ud := ⟨_, rfl⟩
        have hS0 : Mm w ud [(xn, 25, ncl qv y)] := by rw [← hud]; exact HM.out.drew
        show wpAnyH _ _ _ _ _ _ _ _ u.drew
        rw [hud]
        refine h_take (i := 0) (.int .i64 (j : Int)) rfl (by kernel_rfl) (by kernel_rfl) (by kernel_rfl) (fun _ _ _ h => h) rfl hS0 (fun W hW => by simp [execOp, go_sem, Act.put, hsz, s0, s5, s6, dz, dz2, hji, wi, hil]) ?_
        refine h_take (i := 1) (.bool true) rfl (by kernel_rfl) (by kernel_rfl) (by kernel_rfl) (fun _ _ _ h => h) rfl hS0 (fun W hW => by simp [execOp, go_sem, Act.put, hsz, s0, s5, s6, dz, dz2, hji, wi, hil]) ?_
        refine h_take (i := 2) (.bool true) rfl (by kernel_rfl) (by kernel_rfl) (by kernel_rfl) (fun _ _ _ h => h) rfl hS0 (fun W hW => by simp [execOp, go_sem, Act.put, hsz, s0, s5, s6, dz, dz2, hji, wi, hil]) ?_
        refine g_take (i := 3) (.slice (some ⟨g, off, none⟩) l c) rfl (by kernel_rfl) (by kernel_rfl) (by kernel_rfl) (fun _ _ _ h => h) (by simp [Region.wanted, yielded, Act.put, hsz]) hS0 (fun W hW => by simp [execOp, go_sem, Act.put, hsz, s0, s5, s6, dz, dz2, hji, wi, hil]) ?_
        refine g_take (i := 4) (.int .i64 (j : Int)) rfl (by kernel_rfl) (by kernel_rfl) (by kernel_rfl) (fun _ _ _ h => h) (by simp [Region.wanted, yielded, Act.put, hsz]) hS0 (fun W hW => by simp [execOp, go_sem, Act.put, hsz, s0, s5, s6, dz, dz2, hji, wi, hil]) ?_
        refine g_take (i := 5) (.int .i64 (i : Int)) rfl (by kernel_rfl) (by kernel_rfl) (by kernel_rfl) (fun _ _ _ h => h) (by simp [Region.wanted, yielded, Act.put, hsz]) hS0 (fun W hW => by simp [execOp, go_sem, Act.put, hsz, s0, s5, s6, dz, dz2, hji, wi, hil]) ?_
        refine g_take (i := 6) (.pointer (some ⟨g, off + i * 4, none⟩)) rfl (by kernel_rfl) (by kernel_rfl) (by kernel_rfl) (fun _ _ _ h => h) (by simp [Region.wanted, yielded, Act.put, hsz]) hS0 (fun W hW => by simp [execOp, go_sem, Act.put, hsz, s0, s5, s6, dz, dz2, hji, wi, hil]) ?_
        refine g_take (i := 7) (.pointer (some ⟨g, off + i * 4, none⟩)) rfl (by kernel_rfl) (by kernel_rfl) (by kernel_rfl) (fun _ _ _ h => h) (by simp [Region.wanted, yielded, Act.put, hsz]) hS0 (fun W hW => by simp [execOp, go_sem, Act.put, hsz, s0, s5, s6, dz, dz2, hji, wi, hil]) ?_
        refine g_take (i := 8) qv2 rfl (by kernel_rfl) (by kernel_rfl) (by kernel_rfl) (fun _ _ _ h => h) (by simp [Region.wanted, yielded, Act.put, hsz]) hS0 (fun W hW => ex_getv (p := ⟨g, off + i * 4, none⟩) rfl (.inr rfl) (by simp [go_sem, Act.put, hsz]) (HR2.out W hW.below)) ?_
        refine g_take (i := 9) (.pointer (some ⟨xn, 0, none⟩)) rfl (by kernel_rfl) (by kernel_rfl) (by kernel_rfl) (fun _ _ _ h => h) (by simp [Region.wanted, yielded, Act.put, hsz]) hS0 (fun W hW => by simp [execOp, go_sem, Act.put, hsz, s0, s5, s6, dz, dz2, hji, wi, hil]) ?_
        refine g_take (i := 10) qv rfl (by kernel_rfl) (by kernel_rfl) (by kernel_rfl) (fun _ _ _ h => h) (by simp [Region.wanted, yielded, Act.put, hsz]) hS0 (fun W hW => ex_getv (p := ⟨xn, 0, none⟩) rfl (.inr rfl) (by simp [go_sem, Act.put, hsz]) (bv_cell hW.at0 rfl)) ?_
        refine g_call (i := 11) 28 #[qv2, qv] rfl (by kernel_rfl) (by simp [Region.wanted, yielded, Act.put, hsz]) (by simp [execOp, go_sem, Act.put, hsz, s0, s5, s6, dz, dz2, hji, wi, hil]) ((HB2.out _ hS0.below).mono ?_)
        rintro e u6 ⟨rfl, hb6⟩
        have hS6 := hS0.call hb6
        refine ⟨_, rfl, hS6, ?_⟩
        refine g_take (i := 12) (.bool (!b)) rfl (by kernel_rfl) (by kernel_rfl) (by kernel_rfl) (fun _ _ _ h => h) (by simp [Region.wanted, yielded, Act.put, hsz]) hS6 (fun W hW => by simp [execOp, go_sem, Act.put, hsz]) ?_
        refine h_take (i := 13) (.bool (!b)) rfl (by kernel_rfl) (by kernel_rfl) (by kernel_rfl) (fun _ _ _ h => h) rfl hS6 (fun W hW => by simp [execOp, go_sem, Act.put, hsz]) ?_
        refine wpAnyH_done (by kernel_rfl) ?_ _
        subst ha0
        have HM6 : Hid (Mm w u6 []) := hS6.sub (by simp)
        clear hsz s0 s5 s6 hS0 hS6 hb6 hud HM HB2 HR2
        go_simp
        cases b with
        | true =>
          have HQ : Hid (Mm w u6 [] ∧ inO ((tr L).drop (j + 1 - 1)) = B) := ⟨HM6.out, by have := HO2.out; rw [Bool.true_and] at this; exact this⟩
          rw [Bool.not_true]
          clear HO2 HM6 HR2b
          go_wp2
          go_roundw
          case rel => exact ⟨j + 1, by omega, by go_num, HQ.out⟩
          case measure => simp [intOf]; omega
        | false =>
          have HQ : Hid (res = 4) := HR2b.out (by have := HO2.out; rw [Bool.false_and] at this; exact this.symm)
          rw [Bool.not_false]
          clear HO2 HR2b
          go_wp2
          go_ret
          rw [HQ.out]
          exact ⟨rfl, HM6.out.below⟩
      have hB : B = true := by
        rw [← HO.out]
        exact inO_end (by have := HL.out; omega)
      subst hB
      have HC0 : Hid (((tr L).drop 0).all (rfit (tr L)) = C) := HAL2.out (by first | rfl | trivial)
      have HR3c : Hid (C = false → res = 12) := HR3b.out (by first | rfl | trivial)
      have HR4c : Hid (C = true → res = 0) := HR4b.out (by first | rfl | trivial)
      have HM0 : Hid (Mm w wr []) := HM.out
      clear HO HM HBF HAL2 HR2b HR3b HR4b
      rename World => wp
      go_wp2
      clear hlt hj
      go_loopw [8, 46] (fun _ i wr => ∃ i' : Nat, i' ≤ l ∧ i = .int .i64 (i' : Int) ∧ Hid (Mm w wr [] ∧ ((tr L).drop i').all (rfit (tr L)) = C)) (fun _ i _ => l - (intOf i).toNat)
      case atStart => exact ⟨0, Nat.zero_le _, rfl, HM0.out, HC0.out⟩
      case round =>
        clear HC0 HM0
        obtain ⟨i, hi, rfl, HA⟩ := hrel
        have hM := HA.out.1
        have HO : Hid (((tr L).drop i).all (rfit (tr L)) = C) := HA.out.2
        clear HA
        by_cases hlt : ¬ i < l
        · have HQ : Hid (res = 0) := HR4c.out (by rw [← HO.out, List.drop_eq_nil_of_le (by have := HL.out; omega)]; rfl)
          clear HO HAT HFI2 HR3c HR4c
          go_wp2
          go_ret
          rw [HQ.out]
          exact ⟨rfl, hM.below⟩
        have hlt : i < l := by omega
        obtain ⟨⟨qv, y⟩, hq⟩ : ∃ q, L[i]? = some q := ⟨_, List.getElem?_eq_getElem (by have := HL.out; omega)⟩
        obtain ⟨g, off, rfl, hat⟩ := HAT.out i _ hq
        have HRG : Hid (∀ u, Below w.heap.size w u → u.rangeAt g (off + i * 4) (ncl qv y)) := fun u hb => (hat u hb).1
        have HVQ : Hid (Vs (ncl qv y) 4) := ncl_vs y (ris_one (hat w (Below.refl _ _)).2)
        have HF3 : Hid (∀ u, Below w.heap.size w u → Calls Try.prog 29 #[.slice (some ⟨g, off, none⟩) l c, agv (ncl qv y)] u fun e u' => e = .returned (.bool (rfit (tr L) y)) ∧ Below u.heap.size u u') := fun u hb => HFI2.out (qv, y) (List.mem_of_getElem? hq) u hb (hat u hb).2
        have HO2 : Hid ((rfit (tr L) y && ((tr L).drop (i + 1)).all (rfit (tr L))) = C) := by rw [← all_at (tr_at hq)]; exact HO.out
        obtain ⟨b, hb⟩ : ∃ b, rfit (tr L) y = b := ⟨_, rfl⟩
        simp only [hb] at HF3 HO2
        clear HO HAT HFI2 hat hq hb HR4c
        repeat' (first | (go_big_may; first | (refine v_ldR rfl rfl row_node rfl (HRG.out _ hM.below) rfl ?_) | (refine v_alloc rfl zer_node rfl ?_; intro u xn hN; replace hM := hM.new hN; clear hN) | (refine v_fill rfl rfl row_node rfl rfl hM.at0 HVQ.out rfl ?_; intro u hv hc; replace hM := hM.put0 hc hv; clear hv hc) | (refine v_load rfl rfl row_node rfl hM.at0 (Nat.le_refl 4) rfl ?_)) | go_values | go_skip | go_guarded | go_step | go_upon | (simp only [Int.not_lt, Int.not_le] at *; go_simp))
        refine (HF3.out _ hM.below).mono ?_
        rintro e u1 ⟨rfl, hb⟩
        replace hM := hM.call hb
        clear hb HF3 HRG
        cases b with
        | true =>
          have HQ : Hid (((tr L).drop (i + 1)).all (rfit (tr L)) = C) := by have := HO2.out; rw [Bool.true_and] at this; exact this
          have HS : Hid (Mm w u1 []) := hM.sub (by simp)
          clear HO2 hM HR3c
          repeat' (first | go_values | go_skip | go_guarded | go_step | go_upon | (simp only [Int.not_lt, Int.not_le] at *; go_simp))
          go_roundw
          case rel => exact ⟨i + 1, by omega, by go_num, HS.out, HQ.out⟩
          case measure => simp [intOf]; omega
        | false =>
          have HQ : Hid (res = 12) := HR3c.out (by have := HO2.out; rw [Bool.false_and] at this; exact this.symm)
          clear HO2 HR3c
          repeat' (first | go_values | go_skip | go_guarded | go_step | go_upon | (simp only [Int.not_lt, Int.not_le] at *; go_simp))
          go_ret
          rw [HQ.out]
          exact ⟨rfl, hM.below⟩
end Go.Proofs.Ytemlafdmeaobfab.topo
