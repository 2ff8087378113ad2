/- topo: what plugref's SameNode and SameTree answer. -/
import Derived.Test.YtemlafdmeaobfabTopJ
namespace Go.Proofs.Ytemlafdmeaobfab.topo
open Go Go.RowKit Go.Proofs.Ytemlafdmeaobfab.route
set_option linter.unusedVariables false
set_option linter.unusedSimpArgs false
set_option maxRecDepth 100000

def sam (m n : Nd) : Bool := decide (m.1 = n.1) && ((m.2.1 == n.2.1) && ((m.2.2.1 == n.2.2.1) && (m.2.2.2 == n.2.2.2)))
theorem sam_is (m n : Nd) : sam m n = decide (m = n) := by
  obtain ⟨p, k, q, s⟩ := m
  obtain ⟨p', k', q', s'⟩ := n
  rw [Bool.eq_iff_iff]
  simp [sam]
set_option maxHeartbeats 4000000 in
theorem same_any (v1 v2 : Value) (m n : Nd) (w : World) (h1 : Ris w v1 m.1) (h2 : Ris w v2 n.1) : Calls Try.prog 23 #[agv (ncl v1 m), agv (ncl v2 n)] w fun e u => e = .returned (.bool (decide (m = n))) ∧ Below w.heap.size w u := by
  have HC : Hid (∀ u, Below w.heap.size w u → Calls Try.prog 8 #[v1, v2] u fun e w' => e = .returned (.bool (decide (m.1 = n.1))) ∧ Below u.heap.size u w') := fun u hb => equalI_any v1 v2 _ _ u (h1.below hb) (h2.below hb)
  rw [← sam_is]
  unfold sam
  obtain ⟨p, k, q, s⟩ := m
  obtain ⟨p', k', q', s'⟩ := n
  simp only at HC ⊢
  obtain ⟨b0, hb0⟩ : ∃ b, decide (p = p') = b := ⟨_, rfl⟩
  simp only [hb0] at HC ⊢
  have G0 : Hid ((ncl v1 (p, k, q, s))[0]? = some v1) := rfl
  have G1 : Hid ((ncl v1 (p, k, q, s))[1]? = some (.int .i64 k)) := rfl
  have G2 : Hid ((ncl v1 (p, k, q, s))[2]? = some (.int .i64 q)) := rfl
  have G3 : Hid ((ncl v1 (p, k, q, s))[3]? = some (.int .i64 s)) := rfl
  have F0 : Hid ((ncl v2 (p', k', q', s'))[0]? = some v2) := rfl
  have F1 : Hid ((ncl v2 (p', k', q', s'))[1]? = some (.int .i64 k')) := rfl
  have F2 : Hid ((ncl v2 (p', k', q', s'))[2]? = some (.int .i64 q')) := rfl
  have F3 : Hid ((ncl v2 (p', k', q', s'))[3]? = some (.int .i64 s')) := rfl
  have hM := Mm.nil w
  clear h1 h2 hb0
  cases b0 with
  | false =>
    rw [Bool.false_and]
    go_enter Try.func23, Try.ntmps23
    repeat' (first | (go_big_may; first | (refine v_box rfl rfl rfl ?_; intro u xa hN; replace hM := hM.new hN; clear hN) | (refine v_get rfl rfl (.inr rfl) rfl hM.at0 F0.out ?_) | (refine v_get rfl rfl (.inr rfl) rfl hM.at1 G0.out ?_)) | go_values | go_skip | go_guarded | go_step | go_upon | (simp only [Int.not_lt, Int.not_le] at *; go_simp))
    refine (HC.out _ hM.below).mono ?_
    rintro e u1 ⟨rfl, hb⟩
    replace hM := hM.call hb
    clear hb
    repeat' (first | go_values | go_skip | go_guarded | go_step | go_upon | (simp only [Int.not_lt, Int.not_le] at *; go_simp))
    go_ret
    exact ⟨rfl, hM.below⟩
  | true =>
  rw [Bool.true_and]
  cases c1 : (k == k') with
  | false =>
    rw [Bool.false_and]
    go_enter Try.func23, Try.ntmps23
    repeat' (first | (go_big_may; first | (refine v_box rfl rfl rfl ?_; intro u xa hN; replace hM := hM.new hN; clear hN) | (refine v_get rfl rfl (.inr rfl) rfl hM.at0 F0.out ?_) | (refine v_get rfl rfl (.inr rfl) rfl hM.at1 G0.out ?_)) | go_values | go_skip | go_guarded | go_step | go_upon | (simp only [Int.not_lt, Int.not_le] at *; go_simp))
    refine (HC.out _ hM.below).mono ?_
    rintro e u1 ⟨rfl, hb⟩
    replace hM := hM.call hb
    clear hb
    repeat' (first | (go_big_may; first | (refine v_get rfl rfl (.inl rfl) rfl hM.at0 F1.out ?_) | (refine v_get rfl rfl (.inl rfl) rfl hM.at1 G1.out ?_)) | go_values | go_skip | go_guarded | go_step | go_upon | (simp only [Int.not_lt, Int.not_le] at *; go_simp))
    go_ret
    exact ⟨rfl, hM.below⟩
  | true =>
  rw [Bool.true_and]
  cases c2 : (q == q') with
  | false =>
    rw [Bool.false_and]
    go_enter Try.func23, Try.ntmps23
    repeat' (first | (go_big_may; first | (refine v_box rfl rfl rfl ?_; intro u xa hN; replace hM := hM.new hN; clear hN) | (refine v_get rfl rfl (.inr rfl) rfl hM.at0 F0.out ?_) | (refine v_get rfl rfl (.inr rfl) rfl hM.at1 G0.out ?_)) | go_values | go_skip | go_guarded | go_step | go_upon | (simp only [Int.not_lt, Int.not_le] at *; go_simp))
    refine (HC.out _ hM.below).mono ?_
    rintro e u1 ⟨rfl, hb⟩
    replace hM := hM.call hb
    clear hb
    repeat' (first | (go_big_may; first | (refine v_get rfl rfl (.inl rfl) rfl hM.at0 F1.out ?_) | (refine v_get rfl rfl (.inl rfl) rfl hM.at1 G1.out ?_) | (refine v_get rfl rfl (.inl rfl) rfl hM.at0 F2.out ?_) | (refine v_get rfl rfl (.inl rfl) rfl hM.at1 G2.out ?_)) | go_values | go_skip | go_guarded | go_step | go_upon | (simp only [Int.not_lt, Int.not_le] at *; go_simp))
    go_ret
    exact ⟨rfl, hM.below⟩
  | true =>
  rw [Bool.true_and]
  obtain ⟨b3, c3⟩ : ∃ b, (s == s') = b := ⟨_, rfl⟩
  rw [c3]
  go_enter Try.func23, Try.ntmps23
  repeat' (first | (go_big_may; first | (refine v_box rfl rfl rfl ?_; intro u xa hN; replace hM := hM.new hN; clear hN) | (refine v_get rfl rfl (.inr rfl) rfl hM.at0 F0.out ?_) | (refine v_get rfl rfl (.inr rfl) rfl hM.at1 G0.out ?_)) | go_values | go_skip | go_guarded | go_step | go_upon | (simp only [Int.not_lt, Int.not_le] at *; go_simp))
  refine (HC.out _ hM.below).mono ?_
  rintro e u1 ⟨rfl, hb⟩
  replace hM := hM.call hb
  clear hb
  repeat' (first | (go_big_may; first | (refine v_get rfl rfl (.inl rfl) rfl hM.at0 F1.out ?_) | (refine v_get rfl rfl (.inl rfl) rfl hM.at1 G1.out ?_) | (refine v_get rfl rfl (.inl rfl) rfl hM.at0 F2.out ?_) | (refine v_get rfl rfl (.inl rfl) rfl hM.at1 G2.out ?_) | (refine v_get rfl rfl (.inl rfl) rfl hM.at0 F3.out ?_) | (refine v_get rfl rfl (.inl rfl) rfl hM.at1 G3.out ?_)) | go_values | go_skip | go_guarded | go_step | go_upon | (simp only [Int.not_lt, Int.not_le] at *; go_simp))
  go_ret
  exact ⟨rfl, hM.below⟩
set_option maxHeartbeats 4000000 in
theorem equalN_any (v1 v2 : Value) (L M : NL) (w : World) (h1 : Rt w v1 L) (h2 : Rt w v2 M) :
    Calls Try.prog 22 #[v1, v2, .func (.func 23) #[] #[]] w fun e u => e = .returned (.bool (decide (tr L = tr M))) ∧ Below w.heap.size w u := by
  obtain ⟨a, c, rfl, hlc, hcm⟩ := h1.form
  obtain ⟨b, d, rfl, hld, hdm⟩ := h2.form
  have HA : Hid (∀ k q, L[k]? = some q → ∃ g off, a = some ⟨g, off, none⟩ ∧ ∀ u, Below w.heap.size w u → u.rangeAt g (off + k * 4) (ncl q.1 q.2) ∧ Ris u q.1 q.2.1) := fun k q hq => h1.at k q hq
  have HB : Hid (∀ k q, M[k]? = some q → ∃ g off, b = some ⟨g, off, none⟩ ∧ ∀ u, Below w.heap.size w u → u.rangeAt g (off + k * 4) (ncl q.1 q.2) ∧ Ris u q.1 q.2.1) := fun k q hq => h2.at k q hq
  have eg := enters_of Try.func23 (by kernel_rfl) rfl
  have hl1 := tr_len L
  have hl2 := tr_len M
  unfold maxLen at hcm hdm
  clear h1 h2
  by_cases hlen : L.length = M.length
  · obtain ⟨n, hn⟩ : ∃ n, L.length = n := ⟨_, rfl⟩
    have hm : M.length = n := by omega
    have HN : Hid (L.length = n ∧ M.length = n ∧ (tr L).length = n ∧ (tr M).length = n) := ⟨hn, hm, by omega, by omega⟩
    rw [hn] at hlc
    rw [hm] at hld
    rw [hn, hm]
    obtain ⟨R, hR⟩ : ∃ R, decide (tr L = tr M) = R := ⟨_, rfl⟩
    have HR0 : Hid (decide ((tr L).drop 0 = (tr M).drop 0) = R) := hR
    rw [hR]
    clear hn hm hlen hl1 hl2 hR
    go_enter Try.func22, Try.ntmps22
    go_wp2
    go_loopw [7, 8, 9, 17] (fun _ _ _ i wr => ∃ k : Nat, k ≤ n ∧ i = .int .i64 (k : Int) ∧ Hid (Mm w wr [] ∧ decide ((tr L).drop k = (tr M).drop k) = R)) (fun _ _ _ i _ => n - (intOf i).toNat)
    case atStart => exact ⟨0, Nat.zero_le _, rfl, Mm.nil w, HR0.out⟩
    case round =>
      clear HR0
      obtain ⟨k, hk, rfl, HA2⟩ := hrel
      have hM := HA2.out.1
      have HO : Hid (decide ((tr L).drop k = (tr M).drop k) = R) := HA2.out.2
      clear HA2
      by_cases hlt : ¬ k < n
      · have HQ : Hid (R = true) := by
          show R = true
          rw [← HO.out, List.drop_eq_nil_of_le (by have := HN.out; omega), List.drop_eq_nil_of_le (by have := HN.out; omega)]
          rfl
        clear HO HA HB
        go_wp2
        go_ret
        rw [HQ.out]
        exact ⟨rfl, hM.below⟩
      have hlt : k < n := by omega
      obtain ⟨⟨qv, m⟩, hq⟩ : ∃ q, L[k]? = some q := ⟨_, List.getElem?_eq_getElem (by have := HN.out; omega)⟩
      obtain ⟨⟨qv2, m2⟩, hq2⟩ : ∃ q, M[k]? = some q := ⟨_, List.getElem?_eq_getElem (by have := HN.out; omega)⟩
      obtain ⟨g, off, rfl, hat⟩ := HA.out k _ hq
      obtain ⟨g2, off2, rfl, hat2⟩ := HB.out k _ hq2
      have HR1 : Hid (∀ u, Below w.heap.size w u → u.rangeAt g (off + k * 4) (ncl qv m)) := fun u hb => (hat u hb).1
      have HR2 : Hid (∀ u, Below w.heap.size w u → u.rangeAt g2 (off2 + k * 4) (ncl qv2 m2)) := fun u hb => (hat2 u hb).1
      have HV1 : Hid (Vs (ncl qv m) 4) := ncl_vs m (ris_one (hat w (Below.refl _ _)).2)
      have HV2 : Hid (Vs (ncl qv2 m2) 4) := ncl_vs m2 (ris_one (hat2 w (Below.refl _ _)).2)
      have HS : Hid (∀ u, Below w.heap.size w u → Calls Try.prog 23 #[agv (ncl qv m), agv (ncl qv2 m2)] u fun e u' => e = .returned (.bool (decide (m = m2))) ∧ Below u.heap.size u u') := fun u hb => same_any qv qv2 m m2 u (hat u hb).2 (hat2 u hb).2
      have HO2 : Hid ((decide (m = m2) && decide ((tr L).drop (k + 1) = (tr M).drop (k + 1))) = R) := by
        obtain ⟨l1, e1⟩ := List.getElem?_eq_some_iff.1 (tr_at hq)
        obtain ⟨l2, e2⟩ := List.getElem?_eq_some_iff.1 (tr_at hq2)
        have := HO.out
        rw [List.drop_eq_getElem_cons l1, List.drop_eq_getElem_cons l2, e1, e2] at this
        show _ = R
        rw [← this, Bool.eq_iff_iff]
        simp
      obtain ⟨bb, hbb⟩ : ∃ b, decide (m = m2) = b := ⟨_, rfl⟩
      simp only [hbb] at HS HO2
      clear HO HA HB hat hat2 hq hq2 hbb
      repeat' (first | (go_big_may; first | (refine v_ldR rfl rfl row_node rfl (HR1.out _ hM.below) rfl ?_) | (refine v_ldR rfl rfl row_node rfl (HR2.out _ hM.below) rfl ?_) | (refine v_alloc rfl zer_node rfl ?_; intro u xn hN; replace hM := hM.new hN; clear hN) | (refine v_fill rfl rfl row_node rfl rfl hM.at0 HV1.out rfl ?_; intro u hv hc; replace hM := hM.put0 hc hv; clear hv hc) | (refine v_fill rfl rfl row_node rfl rfl hM.at0 HV2.out rfl ?_; intro u hv hc; replace hM := hM.put0 hc hv; clear hv hc) | (refine v_load rfl rfl row_node rfl hM.at0 (Nat.le_refl 4) rfl ?_) | (refine v_load rfl rfl row_node rfl hM.at1 (Nat.le_refl 4) rfl ?_)) | go_values | go_skip | go_guarded | go_step | go_upon | (simp only [Int.not_lt, Int.not_le] at *; go_simp))
      refine (HS.out _ hM.below).mono ?_
      rintro e u1 ⟨rfl, hb⟩
      replace hM := hM.call hb
      clear hb HS HR1 HR2
      cases bb with
      | true =>
        have HQ : Hid (decide ((tr L).drop (k + 1) = (tr M).drop (k + 1)) = R) := by have := HO2.out; rw [Bool.true_and] at this; exact this
        have HS : Hid (Mm w u1 []) := hM.sub (by simp)
        clear HO2 hM
        repeat' (first | go_values | go_skip | go_guarded | go_step | go_upon | (simp only [Int.not_lt, Int.not_le] at *; go_simp))
        go_roundw
        case rel => exact ⟨k + 1, by omega, by go_num, HS.out, HQ.out⟩
        case measure => simp [intOf]; omega
      | false =>
        have HQ : Hid (R = false) := by have := HO2.out; rw [Bool.false_and] at this; exact this.symm
        clear HO2
        repeat' (first | go_values | go_skip | go_guarded | go_step | go_upon | (simp only [Int.not_lt, Int.not_le] at *; go_simp))
        go_ret
        rw [HQ.out]
        exact ⟨rfl, hM.below⟩
  · have e : decide (tr L = tr M) = false := by rw [decide_eq_false_iff_not]; intro q; exact hlen (by rw [← hl1, ← hl2, q])
    rw [e]
    have hne : ((L.length : Int) != (M.length : Int)) = true := by rw [bne_iff_ne]; omega
    clear HA HB e hlen hl1 hl2
    generalize L.length = n at *
    generalize M.length = m at *
    go_enter Try.func22, Try.ntmps22
    go_wp2
    go_ret
    exact ⟨rfl, Below.refl _ _⟩
theorem sameT_any (v1 v2 : Value) (L M : NL) (w : World) (h1 : Rt w v1 L) (h2 : Rt w v2 M) :
    Calls Try.prog 9 #[v1, v2] w fun e u => e = .returned (.bool (decide (tr L = tr M))) ∧ Below w.heap.size w u := by
  have HC : Hid (Calls Try.prog 22 #[v1, v2, .func (.func 23) #[] #[]] w fun e u => e = .returned (.bool (decide (tr L = tr M))) ∧ Below w.heap.size w u) := equalN_any v1 v2 L M w h1 h2
  obtain ⟨R, hR⟩ : ∃ R, decide (tr L = tr M) = R := ⟨_, rfl⟩
  simp only [hR] at HC ⊢
  clear h1 h2 hR
  go_enter Try.func9, Try.ntmps9
  go_wp2_with fail
  refine HC.out.mono ?_
  rintro e u ⟨rfl, hb⟩
  have HB : Hid (Below w.heap.size w u) := hb
  clear hb HC
  go_wp2
  go_ret
  exact ⟨rfl, HB.out⟩
end Go.Proofs.Ytemlafdmeaobfab.topo
