/- topo: what plugref's FindNode and Node answer. -/
import Derived.Test.YtemlafdmeaobfaaTopL
import Derived.Test.YtemlafdmeaobfaaTopG
import Derived.Test.YtemlafdmeaobfaaRouG
namespace Go.Proofs.Ytemlafdmeaobfaa.topo
open Go Go.RowKit Go.Proofs.Ytemlafdmeaobfaa.route
set_option linter.unusedVariables false
set_option linter.unusedSimpArgs false
set_option maxRecDepth 100000

set_option maxHeartbeats 2000000 in
theorem findF_any (v pv : Value) (n : Nd) (p : List Int) (X : Nat) (w : World) (h : Ris w v n.1) (hp : Ris w pv p) (hX : w.heap[X]? = some (bv 23 [pv])) : Calls Try.prog 23 #[agv (ncl v n), .pointer (some ⟨X, 0, none⟩)] w fun e u => e = .returned (.bool (decide (n.1 = p))) ∧ Below w.heap.size w u := by
  have HC : Hid (∀ u, Below w.heap.size w u → Calls Try.prog 20 #[v, pv] u fun e w' => e = .returned (.bool (decide (n.1 = p))) ∧ Below u.heap.size u w') := fun u hb => equalI_any v pv _ _ u (h.below hb) (hp.below hb)
  have HX : Hid (∀ u, Below w.heap.size w u → u.cell? ⟨X, 0, none⟩ = some pv) := fun u hb => bv_cell (keep hX hb) rfl
  obtain ⟨b, hb⟩ : ∃ b, decide (n.1 = p) = b := ⟨_, rfl⟩
  simp only [hb] at HC ⊢
  have G0 : Hid ((ncl v n)[0]? = some v) := rfl
  have hM := Mm.nil w
  clear h hp hX hb
  go_enter Try.func23, Try.ntmps23
  repeat' (first | (go_big_may; first | (refine v_box rfl rfl rfl ?_; intro u xn hN; replace hM := hM.new hN; clear hN) | (refine v_get rfl rfl (.inr rfl) rfl hM.at0 G0.out ?_) | (refine v_cel rfl rfl (.inr rfl) rfl (HX.out _ hM.below) ?_)) | go_values | go_skip | go_guarded | go_step | go_upon | (simp only [Int.not_lt, Int.not_le] at *; go_simp))
  refine (HC.out _ hM.below).mono ?_
  rintro e u1 ⟨rfl, hb⟩
  replace hM := hM.call hb
  clear hb
  repeat' (first | go_values | go_skip | go_guarded | go_step | go_upon | (simp only [Int.not_lt, Int.not_le] at *; go_simp))
  go_ret
  exact ⟨rfl, hM.below⟩
theorem fr_of {T : List Nd} {p : List Int} : ∀ k, (∀ j x, j < k → T[j]? = some x → x.1 ≠ p) → k ≤ T.length → fr T p k
  | 0, _, _ => fr_zero T p
  | k + 1, h, hk => fr_next (fr_of k (fun j x hj hx => h j x (by omega) hx) (by omega)) (List.getElem?_eq_getElem (by omega)) (h k _ (by omega) (List.getElem?_eq_getElem (by omega)))
theorem fnd_ix {T : List Nd} {p : List Int} : (∃ k n, ixf (fun n => decide (n.1 = p)) T = some k ∧ T[k]? = some n ∧ fnN T p = n ∧ fnB T p = true) ∨ (ixf (fun n => decide (n.1 = p)) T = none ∧ fnN T p = zN ∧ fnB T p = false) := by
  cases h : ixf (fun n => decide (n.1 = p)) T with
  | none =>
    right
    unfold ixf at h
    rw [List.findIdx?_eq_none_iff] at h
    have : fnd T p = none := fnd_none.2 fun x hx => by simpa using h x hx
    unfold fnN fnB
    rw [this]
    exact ⟨rfl, rfl, rfl⟩
  | some k =>
    left
    unfold ixf at h
    rw [List.findIdx?_eq_some_iff_getElem] at h
    obtain ⟨hk, h1, h2⟩ := h
    refine ⟨k, T[k], rfl, List.getElem?_eq_getElem hk, ?_⟩
    have hf : fr T p k := fr_of k (fun j x hj hx => by
      have := h2 j hj
      obtain ⟨_, e⟩ := List.getElem?_eq_some_iff.1 hx
      rw [e] at this
      simpa using this) (by omega)
    have := fr_hit hf (List.getElem?_eq_getElem hk) (by simpa using h1)
    unfold fnN fnB
    rw [this]
    exact ⟨rfl, rfl⟩
set_option maxHeartbeats 4000000 in
theorem rfind_any (v pv : Value) (L : NL) (p : List Int) (w : World) (h : Rt w v L) (hp : Ris w pv p) : Calls Try.prog 10 #[v, pv] w fun e u => ∃ v', e = .returned (.tuple #[agv (ncl v' (fnN (tr L) p)), .bool (fnB (tr L) p)]) ∧ Ris u v' (fnN (tr L) p).1 ∧ Below w.heap.size w u := by
  have HI : Hid (∀ u X, Below w.heap.size w u → u.heap[X]? = some (bv 23 [pv]) → Calls Try.prog 22 #[v, .func (.func 23) #[] #[.pointer (some ⟨X, 0, none⟩)]] u fun e u' => e = .returned (.int .i64 (ixV (ixf (fun n => decide (n.1 = p)) (tr L)))) ∧ Below u.heap.size u u') := fun u X hb hX =>
    indexN_any 23 #[.pointer (some ⟨X, 0, none⟩)] (fun n => decide (n.1 = p)) v L u (h.below hb) (enters_of Try.func23 (by kernel_rfl) rfl) fun q hq x hx hr => findF_any q.1 pv q.2 p X x hr ((hp.below hb).below hx) (keep hX hx)
  obtain ⟨a, c, rfl, hlc, hcm⟩ := h.form
  obtain ⟨pa, pc, rfl, hpc, hpm⟩ := hp.form
  have HAT : Hid (∀ k q, L[k]? = some q → ∃ g off, a = some ⟨g, off, none⟩ ∧ ∀ u, Below w.heap.size w u → u.rangeAt g (off + k * 4) (ncl q.1 q.2) ∧ Ris u q.1 q.2.1) := fun k q hq => h.at k q hq
  obtain ⟨l, hl⟩ : ∃ l, L.length = l := ⟨_, rfl⟩
  obtain ⟨m, hm⟩ : ∃ l, p.length = l := ⟨_, rfl⟩
  simp only [hl, hm] at HI hlc ⊢
  have hM := Mm.nil w
  unfold maxLen at hcm
  rcases fnd_ix (T := tr L) (p := p) with ⟨k, n, e1, e2, e3, e4⟩ | ⟨e1, e3, e4⟩
  · have hkL : k < L.length := by have := (List.getElem?_eq_some_iff.1 e2).1; rw [tr_len] at this; exact this
    obtain ⟨⟨qv, m2⟩, hq⟩ : ∃ q, L[k]? = some q := ⟨_, List.getElem?_eq_getElem hkL⟩
    have hmn : m2 = n := by
      have := tr_at hq
      rw [e2] at this
      injection this with this
      exact this.symm
    subst hmn
    obtain ⟨g, off, rfl, hat⟩ := HAT.out k _ hq
    have hkl : k < l := by omega
    have hk0 : decide ((k : Int) < 0) = false := decide_eq_false (by omega)
    have HRG : Hid (∀ u, Below w.heap.size w u → u.rangeAt g (off + k * 4) (ncl qv m2)) := fun u hb => (hat u hb).1
    have HRI : Hid (∀ u, Below w.heap.size w u → Ris u qv m2.1) := fun u hb => (hat u hb).2
    have HVQ : Hid (Vs (ncl qv m2) 4) := ncl_vs m2 (ris_one (hat w (Below.refl _ _)).2)
    rw [e3, e4]
    rw [e1, show ixV (some k) = (k : Int) from rfl] at HI
    clear h hp hl hm e1 e2 e3 e4 hq hat HAT hkL
    go_enter Try.func10, Try.ntmps10
    repeat' (first | (go_big_may; first | (refine v_boxs rfl rfl rfl ?_; intro u xp hN; replace hM := hM.new hN; clear hN) | (refine v_alloc rfl zer_node rfl ?_; intro u xr hN; replace hM := hM.new hN; clear hN)) | go_values | go_skip | go_guarded | go_step | go_upon | (simp only [Int.not_lt, Int.not_le] at *; go_simp))
    refine (HI.out _ _ hM.below hM.at1).mono ?_
    rintro e u1 ⟨rfl, hb⟩
    replace hM := hM.call hb
    clear hb HI
    repeat' (first | (go_big_may; first | (refine v_ldR rfl rfl row_node rfl (HRG.out _ hM.below) rfl ?_) | (refine v_fill rfl rfl row_node rfl rfl hM.at0 HVQ.out rfl ?_; intro u hv hc; replace hM := hM.put0 hc hv; clear hv hc)) | go_values | go_skip | go_guarded | go_step | go_upon | (simp only [Int.not_lt, Int.not_le] at *; go_simp))
    exact bodyPost_ret (ret_2 Try.results10 rfl (ld_var row_node hM.at0 rfl) rfl) rfl ⟨_, rfl, HRI.out _ hM.below, hM.below⟩
  · rw [e3, e4]
    rw [e1, show ixV none = (-1 : Int) from rfl] at HI
    have HV : Hid (Vs (ncl nilS zN) 4) := ncl_vs zN rfl
    clear h hp hl hm e1 e3 e4 HAT
    go_enter Try.func10, Try.ntmps10
    repeat' (first | (go_big_may; first | (refine v_boxs rfl rfl rfl ?_; intro u xp hN; replace hM := hM.new hN; clear hN) | (refine v_alloc rfl zer_node rfl ?_; intro u xr hN; replace hM := hM.new hN; clear hN)) | go_values | go_skip | go_guarded | go_step | go_upon | (simp only [Int.not_lt, Int.not_le] at *; go_simp))
    refine (HI.out _ _ hM.below hM.at1).mono ?_
    rintro e u1 ⟨rfl, hb⟩
    replace hM := hM.call hb
    clear hb HI
    repeat' (first | (go_big_may; first | (refine v_build rfl rfl bld_zero ?hbv ?_; (case hbv => simp [Act.eval, Act.put])) | (refine v_fill rfl rfl row_node rfl rfl hM.at0 HV.out rfl ?_; intro u hv hc; replace hM := hM.put0 hc hv; clear hv hc)) | go_values | go_skip | go_guarded | go_step | go_upon | (simp only [Int.not_lt, Int.not_le] at *; go_simp))
    exact bodyPost_ret (ret_2 Try.results10 rfl (ld_var row_node hM.at0 rfl) rfl) rfl ⟨_, rfl, ris_nil _, hM.below⟩
theorem between_any (a b c : Int) (w : World) : Calls Try.prog 48 #[.int .i64 a, .int .i64 b, .int .i64 c] w fun e w' => e = .returned (.bool (decide (b ≤ a) && decide (a ≤ c))) ∧ w = w' := by
  cases h1 : decide (b ≤ a) <;> cases h2 : decide (a ≤ c) <;> (go_enter Try.func48, Try.ntmps48; go_wp2; go_ret; exact ⟨rfl, rfl⟩)
def nod (z : Int) (k q : Int) (m : Nat) : Bool := if z ≠ 0 then false else if (decide (1 ≤ k) && decide (k ≤ 3)) = false then false else if k = 1 then (if (decide (1 ≤ q) && decide (q ≤ 15)) = true then decide (m ≤ 5) else false) else decide (q = 0)
theorem nod_is (n : Nd) : nod (chk n.1) n.2.1 n.2.2.1 n.1.length = !wrg n := by
  obtain ⟨p, k, q, s⟩ := n
  unfold nod wrg
  simp only
  by_cases h : chk p = 0
  · have := chk_ok h
    simp only [h, ne_eq, not_true_eq_false, if_false]
    by_cases h1 : k = 1
    · subst h1
      have e : (decide ((1 : Int) ≤ 1) && decide ((1 : Int) ≤ 3)) = true := by decide
      simp only [e, Bool.true_eq_false, if_false, if_true]
      by_cases h2 : 1 ≤ q ∧ q ≤ 15
      · have e2 : (decide (1 ≤ q) && decide (q ≤ 15)) = true := by simpa using h2
        rw [if_pos e2, Bool.eq_iff_iff]
        simp
        omega
      · have e2 : ¬ (decide (1 ≤ q) && decide (q ≤ 15)) = true := by simpa using h2
        rw [if_neg e2, Bool.eq_iff_iff]
        simp
        omega
    · simp only [h1, if_false]
      by_cases h2 : k = 2 ∨ k = 3
      · have e : (decide ((1 : Int) ≤ k) && decide (k ≤ 3)) = true := by simp; omega
        simp only [e, Bool.true_eq_false, if_false]
        rw [if_pos h2, Bool.eq_iff_iff]
        simp
      · have e : (decide ((1 : Int) ≤ k) && decide (k ≤ 3)) = false := by rw [Bool.and_eq_false_iff]; simp; omega
        simp only [e, if_true]
        rw [if_neg h2]
        rfl
  · simp only [h, ne_eq, not_false_eq_true, if_true]
    rfl
set_option maxHeartbeats 4000000 in
theorem node_any (v : Value) (n : Nd) (w : World) (h : Ris w v n.1) : Calls Try.prog 28 #[agv (ncl v n)] w fun e u => e = .returned (.bool (!wrg n)) ∧ Below w.heap.size w u := by
  rw [← nod_is]
  obtain ⟨p, k, q, s⟩ := n
  obtain ⟨a, c, rfl, hlc, hcm⟩ := h.form
  have HC : Hid (∀ u, Below w.heap.size w u → Calls Try.prog 47 #[.slice a p.length c] u fun e w' => e = .returned (.int .i64 (chk p)) ∧ u = w') := fun u hb => path_any _ p u (h.below hb)
  have HB1 : Hid (∀ u, Calls Try.prog 48 #[.int .i64 k, .int .i64 1, .int .i64 3] u fun e w' => e = .returned (.bool (decide (1 ≤ k) && decide (k ≤ 3))) ∧ u = w') := fun u => between_any k 1 3 u
  have HB2 : Hid (∀ u, Calls Try.prog 48 #[.int .i64 q, .int .i64 1, .int .i64 15] u fun e w' => e = .returned (.bool (decide (1 ≤ q) && decide (q ≤ 15))) ∧ u = w') := fun u => between_any q 1 15 u
  obtain ⟨R, hR⟩ : ∃ R, nod (chk p) k q p.length = R := ⟨_, rfl⟩
  simp only at hR ⊢
  rw [hR]
  unfold nod at hR
  obtain ⟨z, hz⟩ : ∃ z, chk p = z := ⟨_, rfl⟩
  obtain ⟨m, hm⟩ : ∃ m, p.length = m := ⟨_, rfl⟩
  obtain ⟨b1, hb1⟩ : ∃ b, (decide (1 ≤ k) && decide (k ≤ 3)) = b := ⟨_, rfl⟩
  obtain ⟨b2, hb2⟩ : ∃ b, (decide (1 ≤ q) && decide (q ≤ 15)) = b := ⟨_, rfl⟩
  simp only [hz, hm, hb1, hb2] at HC HB1 HB2 hR hlc ⊢
  have G0 : Hid ((ncl (.slice a m c) (p, k, q, s))[0]? = some (.slice a m c)) := rfl
  have G1 : Hid ((ncl (.slice a m c) (p, k, q, s))[1]? = some (.int .i64 k)) := rfl
  have G2 : Hid ((ncl (.slice a m c) (p, k, q, s))[2]? = some (.int .i64 q)) := rfl
  unfold maxLen at hcm
  have hM := Mm.nil w
  clear h hz hm hb1 hb2
  by_cases h1 : z ≠ 0
  · rw [if_pos h1] at hR
    subst hR
    have e1 : (z != 0) = true := by simpa using h1
    clear h1
    go_enter Try.func28, Try.ntmps28
    repeat' (first | (go_big_may; first | (refine v_box rfl rfl rfl ?_; intro u xb hN; replace hM := hM.new hN; clear hN) | (refine v_get rfl rfl (.inr rfl) rfl hM.at0 G0.out ?_)) | go_values | go_skip | go_guarded | go_step | go_upon | (simp only [Int.not_lt, Int.not_le] at *; go_simp))
    refine (HC.out _ hM.below).mono ?_
    rintro e u1 ⟨rfl, rfl⟩
    repeat' (first | go_values | go_skip | go_guarded | go_step | go_upon | (simp only [Int.not_lt, Int.not_le] at *; go_simp))
    go_ret
    exact ⟨rfl, hM.below⟩
  rw [if_neg h1] at hR
  have h1 : z = 0 := Classical.not_not.1 h1
  subst h1
  have e1 : ((0 : Int) != 0) = false := rfl
  cases b1 with
  | false =>
    rw [if_pos rfl] at hR
    subst hR
    go_enter Try.func28, Try.ntmps28
    repeat' (first | (go_big_may; first | (refine v_box rfl rfl rfl ?_; intro u xb hN; replace hM := hM.new hN; clear hN) | (refine v_get rfl rfl (.inr rfl) rfl hM.at0 G0.out ?_)) | go_values | go_skip | go_guarded | go_step | go_upon | (simp only [Int.not_lt, Int.not_le] at *; go_simp))
    refine (HC.out _ hM.below).mono ?_
    rintro e u1 ⟨rfl, rfl⟩
    repeat' (first | (go_big_may; first | (refine v_get rfl rfl (.inl rfl) rfl hM.at0 G1.out ?_)) | go_values | go_skip | go_guarded | go_step | go_upon | (simp only [Int.not_lt, Int.not_le] at *; go_simp))
    refine (HB1.out _).mono ?_
    rintro e u1 ⟨rfl, rfl⟩
    repeat' (first | go_values | go_skip | go_guarded | go_step | go_upon | (simp only [Int.not_lt, Int.not_le] at *; go_simp))
    go_ret
    exact ⟨rfl, hM.below⟩
  | true =>
  rw [if_neg (by simp)] at hR
  by_cases h2 : k = 1
  · subst h2
    rw [if_pos rfl] at hR
    cases b2 with
    | false =>
      rw [if_neg (by simp)] at hR
      subst hR
      go_enter Try.func28, Try.ntmps28
      repeat' (first | (go_big_may; first | (refine v_box rfl rfl rfl ?_; intro u xb hN; replace hM := hM.new hN; clear hN) | (refine v_get rfl rfl (.inr rfl) rfl hM.at0 G0.out ?_)) | go_values | go_skip | go_guarded | go_step | go_upon | (simp only [Int.not_lt, Int.not_le] at *; go_simp))
      refine (HC.out _ hM.below).mono ?_
      rintro e u1 ⟨rfl, rfl⟩
      repeat' (first | (go_big_may; first | (refine v_get rfl rfl (.inl rfl) rfl hM.at0 G1.out ?_)) | go_values | go_skip | go_guarded | go_step | go_upon | (simp only [Int.not_lt, Int.not_le] at *; go_simp))
      refine (HB1.out _).mono ?_
      rintro e u1 ⟨rfl, rfl⟩
      repeat' (first | (go_big_may; first | (refine v_get rfl rfl (.inl rfl) rfl hM.at0 G1.out ?_) | (refine v_get rfl rfl (.inl rfl) rfl hM.at0 G2.out ?_)) | go_values | go_skip | go_guarded | go_step | go_upon | (simp only [Int.not_lt, Int.not_le] at *; go_simp))
      refine (HB2.out _).mono ?_
      rintro e u1 ⟨rfl, rfl⟩
      repeat' (first | go_values | go_skip | go_guarded | go_step | go_upon | (simp only [Int.not_lt, Int.not_le] at *; go_simp))
      go_ret
      exact ⟨rfl, hM.below⟩
    | true =>
      rw [if_pos rfl] at hR
      have c3 : decide ((m : Int) ≤ 5) = R := by rw [← hR, decide_eq_decide]; omega
      clear hR
      go_enter Try.func28, Try.ntmps28
      repeat' (first | (go_big_may; first | (refine v_box rfl rfl rfl ?_; intro u xb hN; replace hM := hM.new hN; clear hN) | (refine v_get rfl rfl (.inr rfl) rfl hM.at0 G0.out ?_)) | go_values | go_skip | go_guarded | go_step | go_upon | (simp only [Int.not_lt, Int.not_le] at *; go_simp))
      refine (HC.out _ hM.below).mono ?_
      rintro e u1 ⟨rfl, rfl⟩
      repeat' (first | (go_big_may; first | (refine v_get rfl rfl (.inl rfl) rfl hM.at0 G1.out ?_)) | go_values | go_skip | go_guarded | go_step | go_upon | (simp only [Int.not_lt, Int.not_le] at *; go_simp))
      refine (HB1.out _).mono ?_
      rintro e u1 ⟨rfl, rfl⟩
      repeat' (first | (go_big_may; first | (refine v_get rfl rfl (.inl rfl) rfl hM.at0 G1.out ?_) | (refine v_get rfl rfl (.inl rfl) rfl hM.at0 G2.out ?_)) | go_values | go_skip | go_guarded | go_step | go_upon | (simp only [Int.not_lt, Int.not_le] at *; go_simp))
      refine (HB2.out _).mono ?_
      rintro e u1 ⟨rfl, rfl⟩
      repeat' (first | (go_big_may; first | (refine v_get rfl rfl (.inr rfl) rfl hM.at0 G0.out ?_)) | go_values | go_skip | go_guarded | go_step | go_upon | (simp only [Int.not_lt, Int.not_le] at *; go_simp))
      go_ret
      exact ⟨by simp only [← c3]; first | rfl | congr, hM.below⟩
  rw [if_neg h2] at hR
  have e2 : (k == 1) = false := by simpa using h2
  have c3 : (q == 0) = R := by rw [← hR, Bool.eq_iff_iff]; simp
  clear h2 hR
  go_enter Try.func28, Try.ntmps28
  repeat' (first | (go_big_may; first | (refine v_box rfl rfl rfl ?_; intro u xb hN; replace hM := hM.new hN; clear hN) | (refine v_get rfl rfl (.inr rfl) rfl hM.at0 G0.out ?_)) | go_values | go_skip | go_guarded | go_step | go_upon | (simp only [Int.not_lt, Int.not_le] at *; go_simp))
  refine (HC.out _ hM.below).mono ?_
  rintro e u1 ⟨rfl, rfl⟩
  repeat' (first | (go_big_may; first | (refine v_get rfl rfl (.inl rfl) rfl hM.at0 G1.out ?_)) | go_values | go_skip | go_guarded | go_step | go_upon | (simp only [Int.not_lt, Int.not_le] at *; go_simp))
  refine (HB1.out _).mono ?_
  rintro e u1 ⟨rfl, rfl⟩
  repeat' (first | (go_big_may; first | (refine v_get rfl rfl (.inl rfl) rfl hM.at0 G1.out ?_) | (refine v_get rfl rfl (.inl rfl) rfl hM.at0 G2.out ?_)) | go_values | go_skip | go_guarded | go_step | go_upon | (simp only [Int.not_lt, Int.not_le] at *; go_simp))
  go_ret
  exact ⟨rfl, hM.below⟩
end Go.Proofs.Ytemlafdmeaobfaa.topo
