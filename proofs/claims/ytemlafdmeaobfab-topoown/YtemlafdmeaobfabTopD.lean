/- topo: what doAllFit, slices.IndexFunc, Check and checkPlug answer. -/
import Derived.Test.YtemlafdmeaobfabTopC
namespace Go.Proofs.Ytemlafdmeaobfab.topo
open Go Go.RowKit Go.Proofs.Ytemlafdmeaobfab.route
set_option linter.unusedVariables false
set_option linter.unusedSimpArgs false
set_option maxRecDepth 100000

theorem all_at {α : Type} {l : List α} {k : Nat} {y : α} {f : α → Bool} (h : l[k]? = some y) : (l.drop k).all f = (f y && (l.drop (k + 1)).all f) := by
  have hk := (List.getElem?_eq_some_iff.1 h).1
  rw [List.drop_eq_getElem_cons hk, (List.getElem?_eq_some_iff.1 h).2, List.all_cons]
set_option maxHeartbeats 4000000 in
theorem doAllFit_any (v : Value) (L : NL) (w : World) (h : Rt w v L) (h48 : ok48 L) (hl : L.length ≤ 1000) (h16 : ∀ n ∈ tr L, 1 ≤ n.1.length ∧ n.1.length ≤ 6) : Calls Try.prog 37 #[v] w fun e u => e = .returned (.bool ((tr L).all (fit (tr L)))) ∧ Below w.heap.size w u := by
  obtain ⟨a, c, rfl, hlc, hcm⟩ := h.form
  have HAT : Hid (∀ k q, L[k]? = some q → ∃ g off, a = some ⟨g, off, none⟩ ∧ ∀ u, Below w.heap.size w u → u.rangeAt g (off + k * 4) (ncl q.1 q.2) ∧ Ris u q.1 q.2.1) := fun k q hq => h.at k q hq
  have HFI : Hid (∀ q ∈ L, ∀ u, Below w.heap.size w u → Ris u q.1 q.2.1 → Calls Try.prog 31 #[.slice a L.length c, agv (ncl q.1 q.2)] u fun e u' => e = .returned (.bool (fit (tr L) q.2)) ∧ Below u.heap.size u u') := fun q hq u hb hr => fits_any _ q.1 L q.2 u (h.below hb) hr h48 (h16 q.2 (List.mem_map.2 ⟨q, hq, rfl⟩)).1 (h16 q.2 (List.mem_map.2 ⟨q, hq, rfl⟩)).2
  obtain ⟨n, hn⟩ : ∃ n, L.length = n := ⟨_, rfl⟩
  have HN : Hid (L.length = n ∧ (tr L).length = n) := ⟨hn, by rw [tr_len, hn]⟩
  have HR0 : Hid (((tr L).drop 0).all (fit (tr L)) = (tr L).all (fit (tr L))) := rfl
  obtain ⟨R, hR⟩ : ∃ R, (tr L).all (fit (tr L)) = R := ⟨_, rfl⟩
  rw [hR] at HR0 ⊢
  rw [hn] at hlc hl HFI ⊢
  unfold maxLen at hcm
  clear h hn hR h48 h16
  go_enter Try.func37, Try.ntmps37
  go_wp2
  go_loopw [4, 7] (fun _ i wr => ∃ k : Nat, k ≤ n ∧ i = .int .i64 (k : Int) ∧ Hid (Mm w wr [] ∧ ((tr L).drop k).all (fit (tr L)) = R)) (fun _ i _ => n - (intOf i).toNat)
  case atStart => exact ⟨0, Nat.zero_le _, rfl, Mm.nil w, HR0.out⟩
  case round =>
    clear HR0
    obtain ⟨k, hk, rfl, HA⟩ := hrel
    have hM := HA.out.1
    have HO : Hid (((tr L).drop k).all (fit (tr L)) = R) := HA.out.2
    clear HA
    by_cases hlt : ¬ k < n
    · have HQ : Hid (R = true) := by
        show R = true
        rw [← HO.out, List.drop_eq_nil_of_le (by have := HN.out; omega)]
        rfl
      clear HO HAT HFI
      go_wp2
      go_ret
      rw [HQ.out]
      exact ⟨rfl, hM.below⟩
    have hlt : k < n := by omega
    obtain ⟨⟨qv, m⟩, hq⟩ : ∃ q, L[k]? = some q := ⟨_, List.getElem?_eq_getElem (by have := HN.out; omega)⟩
    obtain ⟨g, off, rfl, hat⟩ := HAT.out k _ hq
    have HRG : Hid (∀ u, Below w.heap.size w u → u.rangeAt g (off + k * 4) (ncl qv m)) := fun u hb => (hat u hb).1
    have HVQ : Hid (Vs (ncl qv m) 4) := ncl_vs m (ris_one (hat w (Below.refl _ _)).2)
    have HF2 : Hid (∀ u, Below w.heap.size w u → Calls Try.prog 31 #[.slice (some ⟨g, off, none⟩) n c, agv (ncl qv m)] u fun e u' => e = .returned (.bool (fit (tr L) m)) ∧ Below u.heap.size u u') := fun u hb => HFI.out (qv, m) (List.mem_of_getElem? hq) u hb (hat u hb).2
    have HO2 : Hid ((fit (tr L) m && ((tr L).drop (k + 1)).all (fit (tr L))) = R) := by rw [← all_at (tr_at hq)]; exact HO.out
    obtain ⟨b, hb⟩ : ∃ b, fit (tr L) m = b := ⟨_, rfl⟩
    simp only [hb] at HF2 HO2
    clear HO HAT HFI hat hq hb
    repeat' (first | (go_big_may; first | (refine v_ldR rfl rfl row_node rfl (HRG.out _ hM.below) rfl ?_) | (refine v_alloc rfl zer_node rfl ?_; intro u xn hN; replace hM := hM.new hN; clear hN) | (refine v_fill rfl rfl row_node rfl rfl hM.at0 HVQ.out rfl ?_; intro u hv hc; replace hM := hM.put0 hc hv; clear hv hc) | (refine v_load rfl rfl row_node rfl hM.at0 (Nat.le_refl 4) rfl ?_)) | go_values | go_skip | go_guarded | go_step | go_upon | (simp only [Int.not_lt, Int.not_le] at *; go_simp))
    refine (HF2.out _ hM.below).mono ?_
    rintro e u1 ⟨rfl, hb⟩
    replace hM := hM.call hb
    clear hb HF2
    cases b with
    | true =>
      have HQ : Hid (((tr L).drop (k + 1)).all (fit (tr L)) = R) := by have := HO2.out; rw [Bool.true_and] at this; exact this
      have HS : Hid (Mm w u1 []) := hM.sub (by simp)
      clear HO2 hM
      repeat' (first | go_values | go_skip | go_guarded | go_step | go_upon | (simp only [Int.not_lt, Int.not_le] at *; go_simp))
      go_roundw
      case rel => exact ⟨k + 1, by omega, by go_num, HS.out, HQ.out⟩
      case measure => simp [intOf]; omega
    | false =>
      have HQ : Hid (R = false) := by have := HO2.out; rw [Bool.false_and] at this; exact this.symm
      clear HO2
      repeat' (first | go_values | go_skip | go_guarded | go_step | go_upon | (simp only [Int.not_lt, Int.not_le] at *; go_simp))
      go_ret
      rw [HQ.out]
      exact ⟨rfl, hM.below⟩
/-- where the first one is of which f holds -/
def ixf (f : Nd → Bool) (T : List Nd) : Option Nat := T.findIdx? f
def ixV (o : Option Nat) : Int := (o.map Int.ofNat).getD (-1)
theorem ixf_hit {f : Nd → Bool} {T : List Nd} {k : Nat} {n : Nd} (h : ∀ j x, j < k → T[j]? = some x → f x = false) (hk : T[k]? = some n) (hf : f n = true) : ixf f T = some k := by
  obtain ⟨hl, e⟩ := List.getElem?_eq_some_iff.1 hk
  unfold ixf
  rw [List.findIdx?_eq_some_iff_getElem]
  refine ⟨hl, by rw [e]; exact hf, fun j hj => ?_⟩
  rw [h j _ hj (List.getElem?_eq_getElem (by omega))]
  simp
theorem ixf_none {f : Nd → Bool} {T : List Nd} (h : ∀ j x, j < T.length → T[j]? = some x → f x = false) : ixf f T = none := by
  unfold ixf
  rw [List.findIdx?_eq_none_iff]
  intro x hx
  obtain ⟨j, hj, e⟩ := List.getElem_of_mem hx
  exact h j x hj (by rw [List.getElem?_eq_getElem hj, e])
theorem ixf_any (f : Nd → Bool) (T : List Nd) : decide (0 ≤ ixV (ixf f T)) = T.any f := by
  unfold ixf ixV
  rw [← List.findIdx?_isSome]
  cases h : T.findIdx? f with
  | none => rfl
  | some i => simp
set_option maxHeartbeats 4000000 in
theorem indexN_any (F : FuncId) (cb : Array Value) (f : Nd → Bool) (v : Value) (L : NL) (w : World) (h : Rt w v L)
    (eg : ∀ args w, (callFunc F args).run Try.prog w = .ok (.enter F args) w)
    (hF : ∀ q ∈ L, ∀ u, Below w.heap.size w u → Ris u q.1 q.2.1 → Calls Try.prog F (#[agv (ncl q.1 q.2)] ++ cb) u fun e u' => e = .returned (.bool (f q.2)) ∧ Below u.heap.size u u') :
    Calls Try.prog 44 #[v, .func (.func F) #[] cb] w fun e u => e = .returned (.int .i64 (ixV (ixf f (tr L)))) ∧ Below w.heap.size w u := by
  obtain ⟨a, c, rfl, hlc, hcm⟩ := h.form
  have HAT : Hid (∀ k q, L[k]? = some q → ∃ g off, a = some ⟨g, off, none⟩ ∧ ∀ u, Below w.heap.size w u → u.rangeAt g (off + k * 4) (ncl q.1 q.2) ∧ Ris u q.1 q.2.1) := fun k q hq => h.at k q hq
  have HFI : Hid (∀ q ∈ L, ∀ u, Below w.heap.size w u → Ris u q.1 q.2.1 → Calls Try.prog F (#[agv (ncl q.1 q.2)] ++ cb) u fun e u' => e = .returned (.bool (f q.2)) ∧ Below u.heap.size u u') := hF
  obtain ⟨n, hn⟩ : ∃ n, L.length = n := ⟨_, rfl⟩
  have HN : Hid (L.length = n ∧ (tr L).length = n) := ⟨hn, by rw [tr_len, hn]⟩
  obtain ⟨R, hR⟩ : ∃ R, ixV (ixf f (tr L)) = R := ⟨_, rfl⟩
  have HRR : Hid (ixV (ixf f (tr L)) = R) := hR
  rw [hR, hn]
  rw [hn] at hlc
  unfold maxLen at hcm
  clear h hn hR hF
  go_enter Try.func44, Try.ntmps44
  go_wp2
  go_loopw [5, 8] (fun _ i wr => ∃ k : Nat, k ≤ n ∧ i = .int .i64 (k : Int) ∧ Hid (Mm w wr [] ∧ ∀ j x, j < k → (tr L)[j]? = some x → f x = false)) (fun _ i _ => n - (intOf i).toNat)
  case atStart => exact ⟨0, Nat.zero_le _, rfl, Mm.nil w, fun j x hj => absurd hj (by omega)⟩
  case round =>
    obtain ⟨k, hk, rfl, HA⟩ := hrel
    have hM := HA.out.1
    have HO : Hid (∀ j x, j < k → (tr L)[j]? = some x → f x = false) := HA.out.2
    clear HA
    by_cases hlt : ¬ k < n
    · have HQ : Hid ((-1 : Int) = R) := by
        show _ = R
        rw [← HRR.out, ixf_none (fun j x hj hx => HO.out j x (by have := HN.out; omega) hx)]
        rfl
      clear HO HAT HFI HRR
      go_wp2
      go_ret
      rw [← HQ.out]
      exact ⟨rfl, hM.below⟩
    have hlt : k < n := by omega
    obtain ⟨⟨qv, m⟩, hq⟩ : ∃ q, L[k]? = some q := ⟨_, List.getElem?_eq_getElem (by have := HN.out; omega)⟩
    obtain ⟨g, off, rfl, hat⟩ := HAT.out k _ hq
    have HRG : Hid (∀ u, Below w.heap.size w u → u.rangeAt g (off + k * 4) (ncl qv m)) := fun u hb => (hat u hb).1
    have HF2 : Hid (∀ u, Below w.heap.size w u → Calls Try.prog F (#[agv (ncl qv m)] ++ cb) u fun e u' => e = .returned (.bool (f m)) ∧ Below u.heap.size u u') := fun u hb => HFI.out (qv, m) (List.mem_of_getElem? hq) u hb (hat u hb).2
    have HH : Hid (f m = true → (k : Int) = R) := fun hf => by
      rw [← HRR.out, ixf_hit HO.out (tr_at hq) hf]
      rfl
    have HX : Hid (f m = false → ∀ j x, j < k + 1 → (tr L)[j]? = some x → f x = false) := fun hf j x hj hx => by
      rcases Nat.lt_succ_iff_lt_or_eq.1 hj with q | q
      · exact HO.out j x q hx
      · subst q
        rw [tr_at hq] at hx
        injection hx with hx
        rw [← hx]
        exact hf
    obtain ⟨b, hb⟩ : ∃ b, f m = b := ⟨_, rfl⟩
    simp only [hb] at HF2 HH HX
    clear HO HAT HFI hat hq hb HRR
    repeat' (first | (go_big_may; first | (refine v_ldR rfl rfl row_node rfl (HRG.out _ hM.below) rfl ?_)) | go_values | go_skip | go_guarded | go_step | go_upon | (simp only [Int.not_lt, Int.not_le] at *; go_simp))
    refine (HF2.out _ hM.below).mono ?_
    rintro e u1 ⟨rfl, hb⟩
    replace hM := hM.call hb
    clear hb HF2
    cases b with
    | true =>
      have HQ : Hid ((k : Int) = R) := HH.out rfl
      clear HH HX
      repeat' (first | go_values | go_skip | go_guarded | go_step | go_upon | (simp only [Int.not_lt, Int.not_le] at *; go_simp))
      go_ret
      rw [← HQ.out]
      exact ⟨rfl, hM.below⟩
    | false =>
      have HQ : Hid (∀ j x, j < k + 1 → (tr L)[j]? = some x → f x = false) := HX.out rfl
      have HS : Hid (Mm w u1 []) := hM
      clear HH HX hM
      repeat' (first | go_values | go_skip | go_guarded | go_step | go_upon | (simp only [Int.not_lt, Int.not_le] at *; go_simp))
      go_roundw
      case rel => exact ⟨k + 1, by omega, by go_num, HS.out, HQ.out⟩
      case measure => simp [intOf]; omega
set_option maxHeartbeats 2000000 in
theorem containsN_any (F : FuncId) (cb : Array Value) (f : Nd → Bool) (v : Value) (L : NL) (w : World) (h : Rt w v L)
    (eg : ∀ args w, (callFunc F args).run Try.prog w = .ok (.enter F args) w)
    (hF : ∀ q ∈ L, ∀ u, Below w.heap.size w u → Ris u q.1 q.2.1 → Calls Try.prog F (#[agv (ncl q.1 q.2)] ++ cb) u fun e u' => e = .returned (.bool (f q.2)) ∧ Below u.heap.size u u') :
    Calls Try.prog 35 #[v, .func (.func F) #[] cb] w fun e u => e = .returned (.bool ((tr L).any f)) ∧ Below w.heap.size w u := by
  have HC : Hid (Calls Try.prog 44 #[v, .func (.func F) #[] cb] w fun e u => e = .returned (.int .i64 (ixV (ixf f (tr L)))) ∧ Below w.heap.size w u) := indexN_any F cb f v L w h eg hF
  have hx := ixf_any f (tr L)
  obtain ⟨z, hz⟩ : ∃ z, ixV (ixf f (tr L)) = z := ⟨_, rfl⟩
  obtain ⟨b, hb⟩ : ∃ b, (tr L).any f = b := ⟨_, rfl⟩
  rw [hz] at HC hx
  rw [hb] at hx ⊢
  clear h hF hz hb
  go_enter Try.func35, Try.ntmps35
  go_wp2_with fail
  refine HC.out.mono ?_
  rintro e u ⟨rfl, hb⟩
  have HB : Hid (Below w.heap.size w u) := hb
  clear hb HC
  go_wp2
  go_ret
  exact ⟨rfl, HB.out⟩
theorem any_no {T : List Nd} (h : T.any wrg = false) : ∀ n ∈ T, Rgt n := fun n hn => by
  rw [← wrg_no]
  cases q : wrg n with
  | false => rfl
  | true => rw [List.any_eq_true.2 ⟨n, hn, q⟩] at h; cases h
set_option maxHeartbeats 4000000 in
theorem check_any2 (v : Value) (L : NL) (w : World) (h : Rt w v L) (h48 : ok48 L) : Calls Try.prog 24 #[v] w fun e u => e = .returned (.int .i64 (chkT (tr L))) ∧ Below w.heap.size w u := by
  obtain ⟨a, c, rfl, hlc, hcm⟩ := h.form
  have HC : Hid (Calls Try.prog 35 #[.slice a L.length c, .func (.func 30) #[] #[]] w fun e u => e = .returned (.bool ((tr L).any wrg)) ∧ Below w.heap.size w u) :=
    containsN_any 30 #[] wrg _ L w h (enters_of Try.func30 (by kernel_rfl) rfl) fun q hq u hb hr => isWrong_any q.1 q.2 u hr
  have HI : Hid (∀ u, L.length ≤ 40 → Below w.heap.size w u → Calls Try.prog 36 #[.slice a L.length c] u fun e u' => e = .returned (.bool (inO (tr L))) ∧ Below u.heap.size u u') := fun u hl hb => isInOrder_any _ L u (h.below hb) (by omega)
  have HA : Hid (∀ u, L.length ≤ 40 → (tr L).any wrg = false → Below w.heap.size w u → Calls Try.prog 37 #[.slice a L.length c] u fun e u' => e = .returned (.bool ((tr L).all (fit (tr L)))) ∧ Below u.heap.size u u') := fun u hl hr hb => doAllFit_any _ L u (h.below hb) h48 (by omega) fun n hn => ⟨(chk_ok (any_no hr n hn).1).1, (chk_ok (any_no hr n hn).1).2.1⟩
  unfold chkT
  rw [tr_len]
  obtain ⟨n, hn⟩ : ∃ n, L.length = n := ⟨_, rfl⟩
  rw [hn] at HC HI HA hlc ⊢
  obtain ⟨x, hx⟩ : ∃ x, (tr L).any wrg = x := ⟨_, rfl⟩
  obtain ⟨y, hy⟩ : ∃ x, inO (tr L) = x := ⟨_, rfl⟩
  obtain ⟨z, hz⟩ : ∃ x, (tr L).all (fit (tr L)) = x := ⟨_, rfl⟩
  simp only [hx, hy, hz] at HC HI HA ⊢
  unfold maxLen at hcm
  have hM := Mm.nil w
  clear h hn hx hy hz h48
  by_cases h1 : 40 < n
  · rw [if_pos h1]
    go_enter Try.func24, Try.ntmps24
    repeat' (first | go_values | go_skip | go_guarded | go_step | go_upon | (simp only [Int.not_lt, Int.not_le] at *; go_simp))
    go_ret
    exact ⟨rfl, hM.below⟩
  rw [if_neg h1]
  have h2 : n ≤ 40 := by omega
  cases x with
  | true =>
    rw [if_pos rfl]
    go_enter Try.func24, Try.ntmps24
    repeat' (first | go_values | go_skip | go_guarded | go_step | go_upon | (simp only [Int.not_lt, Int.not_le] at *; go_simp))
    refine HC.out.mono ?_
    rintro e u1 ⟨rfl, hb⟩
    replace hM := hM.call hb
    clear hb
    repeat' (first | go_values | go_skip | go_guarded | go_step | go_upon | (simp only [Int.not_lt, Int.not_le] at *; go_simp))
    go_ret
    exact ⟨rfl, hM.below⟩
  | false =>
    rw [if_neg (by simp)]
    cases y with
    | false =>
      rw [if_pos rfl]
      go_enter Try.func24, Try.ntmps24
      repeat' (first | go_values | go_skip | go_guarded | go_step | go_upon | (simp only [Int.not_lt, Int.not_le] at *; go_simp))
      refine HC.out.mono ?_
      rintro e u1 ⟨rfl, hb⟩
      replace hM := hM.call hb
      clear hb
      repeat' (first | go_values | go_skip | go_guarded | go_step | go_upon | (simp only [Int.not_lt, Int.not_le] at *; go_simp))
      refine (HI.out _ h2 hM.below).mono ?_
      rintro e u2 ⟨rfl, hb⟩
      replace hM := hM.call hb
      clear hb
      repeat' (first | go_values | go_skip | go_guarded | go_step | go_upon | (simp only [Int.not_lt, Int.not_le] at *; go_simp))
      go_ret
      exact ⟨rfl, hM.below⟩
    | true =>
      rw [if_neg (by simp)]
      cases z with
      | false =>
        rw [if_pos rfl]
        go_enter Try.func24, Try.ntmps24
        repeat' (first | go_values | go_skip | go_guarded | go_step | go_upon | (simp only [Int.not_lt, Int.not_le] at *; go_simp))
        refine HC.out.mono ?_
        rintro e u1 ⟨rfl, hb⟩
        replace hM := hM.call hb
        clear hb
        repeat' (first | go_values | go_skip | go_guarded | go_step | go_upon | (simp only [Int.not_lt, Int.not_le] at *; go_simp))
        refine (HI.out _ h2 hM.below).mono ?_
        rintro e u2 ⟨rfl, hb⟩
        replace hM := hM.call hb
        clear hb
        repeat' (first | go_values | go_skip | go_guarded | go_step | go_upon | (simp only [Int.not_lt, Int.not_le] at *; go_simp))
        refine (HA.out _ h2 (by first | rfl | trivial) hM.below).mono ?_
        rintro e u3 ⟨rfl, hb⟩
        replace hM := hM.call hb
        clear hb
        repeat' (first | go_values | go_skip | go_guarded | go_step | go_upon | (simp only [Int.not_lt, Int.not_le] at *; go_simp))
        go_ret
        exact ⟨rfl, hM.below⟩
      | true =>
        rw [if_neg (by simp)]
        go_enter Try.func24, Try.ntmps24
        repeat' (first | go_values | go_skip | go_guarded | go_step | go_upon | (simp only [Int.not_lt, Int.not_le] at *; go_simp))
        refine HC.out.mono ?_
        rintro e u1 ⟨rfl, hb⟩
        replace hM := hM.call hb
        clear hb
        repeat' (first | go_values | go_skip | go_guarded | go_step | go_upon | (simp only [Int.not_lt, Int.not_le] at *; go_simp))
        refine (HI.out _ h2 hM.below).mono ?_
        rintro e u2 ⟨rfl, hb⟩
        replace hM := hM.call hb
        clear hb
        repeat' (first | go_values | go_skip | go_guarded | go_step | go_upon | (simp only [Int.not_lt, Int.not_le] at *; go_simp))
        refine (HA.out _ h2 (by first | rfl | trivial) hM.below).mono ?_
        rintro e u3 ⟨rfl, hb⟩
        replace hM := hM.call hb
        clear hb
        repeat' (first | go_values | go_skip | go_guarded | go_step | go_upon | (simp only [Int.not_lt, Int.not_le] at *; go_simp))
        go_ret
        exact ⟨rfl, hM.below⟩
end Go.Proofs.Ytemlafdmeaobfab.topo
