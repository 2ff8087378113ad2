/- topo: what isWrong, order, copyOf and Find answer. -/
import Derived.Test.YtemlafdmeaobfabTopA
import Derived.Test.YtemlafdmeaobfabRouC
import Derived.Test.YtemlafdmeaobfabRouD
import Derived.BigQuiet
namespace Go.Proofs.Ytemlafdmeaobfab.topo
open Go Go.RowKit Go.Proofs.Ytemlafdmeaobfab.route
set_option linter.unusedVariables false
set_option linter.unusedSimpArgs false
set_option maxRecDepth 100000

set_option maxHeartbeats 4000000 in
theorem isWrong_any (v : Value) (n : Nd) (w : World) (h : Ris w v n.1) : Calls Try.prog 30 #[agv (ncl v n)] w fun e u => e = .returned (.bool (wrg n)) ∧ Below w.heap.size w u := by
  obtain ⟨p, k, q, s⟩ := n
  obtain ⟨a, c, rfl, hlc, hcm⟩ := h.form
  have HC : Hid (∀ u, Below w.heap.size w u → Calls Try.prog 41 #[.slice a p.length c] u fun e w' => e = .returned (.int .i64 (chk p)) ∧ u = w') := fun u hb => check_any _ p u (h.below hb)
  obtain ⟨b, hb⟩ : ∃ b, wrg (p, k, q, s) = b := ⟨_, rfl⟩
  rw [hb]
  unfold wrg at hb
  simp only at hb
  obtain ⟨z, hz⟩ : ∃ z, chk p = z := ⟨_, rfl⟩
  obtain ⟨m, hm⟩ : ∃ m, p.length = m := ⟨_, rfl⟩
  simp only [hz, hm] at HC hb hlc ⊢
  have G0 : Hid ((ncl (.slice a m c) (p, k, q, s))[0]? = some (.slice a m c)) := rfl
  have G1 : Hid ((ncl (.slice a m c) (p, k, q, s))[1]? = some (.int .i64 k)) := rfl
  have G2 : Hid ((ncl (.slice a m c) (p, k, q, s))[2]? = some (.int .i64 q)) := rfl
  unfold maxLen at hcm
  have hM := Mm.nil w
  clear h hz hm
  by_cases h1 : z ≠ 0
  · rw [if_pos h1] at hb
    subst hb
    have e1 : (z != 0) = true := by simpa using h1
    clear h1
    go_enter Try.func30, Try.ntmps30
    repeat' (first | (go_big_may; first | (refine v_box rfl rfl rfl ?_; intro u xb hN; replace hM := hM.new hN; clear hN) | (refine v_get rfl rfl (.inr rfl) rfl hM.at0 G0.out ?_)) | go_values | go_skip | go_guarded | go_step | go_upon | (simp only [Int.not_lt, Int.not_le] at *; go_simp))
    refine (HC.out _ hM.below).mono ?_
    rintro e u1 ⟨rfl, rfl⟩
    repeat' (first | go_values | go_skip | go_guarded | go_step | go_upon | (simp only [Int.not_lt, Int.not_le] at *; go_simp))
    go_ret
    exact ⟨rfl, hM.below⟩
  rw [if_neg h1] at hb
  have h1 : z = 0 := Classical.not_not.1 h1
  subst h1
  have e1 : ((0 : Int) != 0) = false := rfl
  by_cases h2 : k = 1
  · subst h2
    rw [if_pos rfl] at hb
    cases c1 : decide (q < 1) with
    | true =>
      rw [c1, Bool.true_or, Bool.true_or] at hb
      subst hb
      go_enter Try.func30, Try.ntmps30
      repeat' (first | (go_big_may; first | (refine v_box rfl rfl rfl ?_; intro u xb hN; replace hM := hM.new hN; clear hN) | (refine v_get rfl rfl (.inr rfl) rfl hM.at0 G0.out ?_)) | go_values | go_skip | go_guarded | go_step | go_upon | (simp only [Int.not_lt, Int.not_le] at *; go_simp))
      refine (HC.out _ hM.below).mono ?_
      rintro e u1 ⟨rfl, rfl⟩
      repeat' (first | (go_big_may; first | (refine v_get rfl rfl (.inl rfl) rfl hM.at0 G1.out ?_) | (refine v_get rfl rfl (.inl rfl) rfl hM.at0 G2.out ?_)) | go_values | go_skip | go_guarded | go_step | go_upon | (simp only [Int.not_lt, Int.not_le] at *; go_simp))
      go_ret
      exact ⟨rfl, hM.below⟩
    | false =>
      cases c2 : decide (15 < q) with
      | true =>
        rw [c1, c2, Bool.false_or, Bool.true_or] at hb
        subst hb
        go_enter Try.func30, Try.ntmps30
        repeat' (first | (go_big_may; first | (refine v_box rfl rfl rfl ?_; intro u xb hN; replace hM := hM.new hN; clear hN) | (refine v_get rfl rfl (.inr rfl) rfl hM.at0 G0.out ?_)) | go_values | go_skip | go_guarded | go_step | go_upon | (simp only [Int.not_lt, Int.not_le] at *; go_simp))
        refine (HC.out _ hM.below).mono ?_
        rintro e u1 ⟨rfl, rfl⟩
        repeat' (first | (go_big_may; first | (refine v_get rfl rfl (.inl rfl) rfl hM.at0 G1.out ?_) | (refine v_get rfl rfl (.inl rfl) rfl hM.at0 G2.out ?_)) | go_values | go_skip | go_guarded | go_step | go_upon | (simp only [Int.not_lt, Int.not_le] at *; go_simp))
        go_ret
        exact ⟨rfl, hM.below⟩
      | false =>
        rw [c1, c2, Bool.false_or, Bool.false_or] at hb
        have c3 : ((m : Int) == 6) = b := by rw [← hb, Bool.eq_iff_iff]; simp; omega
        clear hb
        go_enter Try.func30, Try.ntmps30
        repeat' (first | (go_big_may; first | (refine v_box rfl rfl rfl ?_; intro u xb hN; replace hM := hM.new hN; clear hN) | (refine v_get rfl rfl (.inr rfl) rfl hM.at0 G0.out ?_)) | go_values | go_skip | go_guarded | go_step | go_upon | (simp only [Int.not_lt, Int.not_le] at *; go_simp))
        refine (HC.out _ hM.below).mono ?_
        rintro e u1 ⟨rfl, rfl⟩
        repeat' (first | (go_big_may; first | (refine v_get rfl rfl (.inl rfl) rfl hM.at0 G1.out ?_) | (refine v_get rfl rfl (.inl rfl) rfl hM.at0 G2.out ?_) | (refine v_get rfl rfl (.inr rfl) rfl hM.at0 G0.out ?_)) | go_values | go_skip | go_guarded | go_step | go_upon | (simp only [Int.not_lt, Int.not_le] at *; go_simp))
        go_ret
        exact ⟨rfl, hM.below⟩
  rw [if_neg h2] at hb
  have e2 : (k == 1) = false := by simpa using h2
  by_cases h3 : k = 2
  · subst h3
    rw [if_pos (.inl rfl)] at hb
    have c3 : (q != 0) = b := by rw [← hb, Bool.eq_iff_iff]; simp
    clear hb h2
    go_enter Try.func30, Try.ntmps30
    repeat' (first | (go_big_may; first | (refine v_box rfl rfl rfl ?_; intro u xb hN; replace hM := hM.new hN; clear hN) | (refine v_get rfl rfl (.inr rfl) rfl hM.at0 G0.out ?_)) | go_values | go_skip | go_guarded | go_step | go_upon | (simp only [Int.not_lt, Int.not_le] at *; go_simp))
    refine (HC.out _ hM.below).mono ?_
    rintro e u1 ⟨rfl, rfl⟩
    repeat' (first | (go_big_may; first | (refine v_get rfl rfl (.inl rfl) rfl hM.at0 G1.out ?_) | (refine v_get rfl rfl (.inl rfl) rfl hM.at0 G2.out ?_)) | go_values | go_skip | go_guarded | go_step | go_upon | (simp only [Int.not_lt, Int.not_le] at *; go_simp))
    go_ret
    exact ⟨rfl, hM.below⟩
  have e3 : (k == 2) = false := by simpa using h3
  by_cases h4 : k = 3
  · subst h4
    rw [if_pos (.inr rfl)] at hb
    have c3 : (q != 0) = b := by rw [← hb, Bool.eq_iff_iff]; simp
    clear hb h2 h3
    go_enter Try.func30, Try.ntmps30
    repeat' (first | (go_big_may; first | (refine v_box rfl rfl rfl ?_; intro u xb hN; replace hM := hM.new hN; clear hN) | (refine v_get rfl rfl (.inr rfl) rfl hM.at0 G0.out ?_)) | go_values | go_skip | go_guarded | go_step | go_upon | (simp only [Int.not_lt, Int.not_le] at *; go_simp))
    refine (HC.out _ hM.below).mono ?_
    rintro e u1 ⟨rfl, rfl⟩
    repeat' (first | (go_big_may; first | (refine v_get rfl rfl (.inl rfl) rfl hM.at0 G1.out ?_) | (refine v_get rfl rfl (.inl rfl) rfl hM.at0 G2.out ?_)) | go_values | go_skip | go_guarded | go_step | go_upon | (simp only [Int.not_lt, Int.not_le] at *; go_simp))
    go_ret
    exact ⟨rfl, hM.below⟩
  rw [if_neg (by omega)] at hb
  subst hb
  have e4 : (k == 3) = false := by simpa using h4
  clear h2 h3 h4
  go_enter Try.func30, Try.ntmps30
  repeat' (first | (go_big_may; first | (refine v_box rfl rfl rfl ?_; intro u xb hN; replace hM := hM.new hN; clear hN) | (refine v_get rfl rfl (.inr rfl) rfl hM.at0 G0.out ?_)) | go_values | go_skip | go_guarded | go_step | go_upon | (simp only [Int.not_lt, Int.not_le] at *; go_simp))
  refine (HC.out _ hM.below).mono ?_
  rintro e u1 ⟨rfl, rfl⟩
  repeat' (first | (go_big_may; first | (refine v_get rfl rfl (.inl rfl) rfl hM.at0 G1.out ?_) | (refine v_get rfl rfl (.inl rfl) rfl hM.at0 G2.out ?_)) | go_values | go_skip | go_guarded | go_step | go_upon | (simp only [Int.not_lt, Int.not_le] at *; go_simp))
  go_ret
  exact ⟨rfl, hM.below⟩
set_option maxHeartbeats 2000000 in
theorem order_any2 (v1 v2 : Value) (m n : Nd) (w : World) (h1 : Ris w v1 m.1) (h2 : Ris w v2 n.1) : Calls Try.prog 18 #[agv (ncl v1 m), agv (ncl v2 n)] w fun e u => e = .returned (.int .i64 (odr m.1 n.1)) ∧ Below w.heap.size w u := by
  have HC : Hid (∀ u, Below w.heap.size w u → Calls Try.prog 32 #[v1, v2] u fun e w' => e = .returned (.int .i64 (odr m.1 n.1)) ∧ u = w') := fun u hb => order_any v1 v2 _ _ u (h1.below hb) (h2.below hb)
  obtain ⟨z, hz⟩ : ∃ z, odr m.1 n.1 = z := ⟨_, rfl⟩
  simp only [hz] at HC ⊢
  have G0 : Hid ((ncl v1 m)[0]? = some v1) := rfl
  have G1 : Hid ((ncl v2 n)[0]? = some v2) := rfl
  have hM := Mm.nil w
  clear hz h1 h2
  go_enter Try.func18, Try.ntmps18
  repeat' (first | (go_big_may; first | (refine v_box rfl rfl rfl ?_; intro u xa hN; replace hM := hM.new hN; clear hN) | (refine v_get rfl rfl (.inr rfl) rfl hM.at0 G1.out ?_) | (refine v_get rfl rfl (.inr rfl) rfl hM.at1 G0.out ?_)) | go_values | go_skip | go_guarded | go_step | go_upon | (simp only [Int.not_lt, Int.not_le] at *; go_simp))
  refine (HC.out _ hM.below).mono ?_
  rintro e u1 ⟨rfl, rfl⟩
  repeat' (first | go_values | go_skip | go_guarded | go_step | go_upon | (simp only [Int.not_lt, Int.not_le] at *; go_simp))
  go_ret
  exact ⟨rfl, hM.below⟩
/-- a node with a path of its own, in a block from B on -/
structure On (w : World) (B : Nat) (v : Value) (n : Nd) : Prop where
  pa : Iw w B v n.1
theorem On.below {w u : World} {B : Nat} {v : Value} {n : Nd} (h : On w B v n) (hb : Below w.heap.size w u) : On u B v n := ⟨h.pa.below hb⟩
theorem On.ris {w : World} {B : Nat} {v : Value} {n : Nd} (h : On w B v n) : Ris w v n.1 := h.pa.ris
theorem On.mono {w : World} {B B' : Nat} {v : Value} {n : Nd} (h : On w B v n) (hb : B' ≤ B) : On w B' v n := ⟨by
  refine ⟨h.pa.1, ?_⟩
  rcases h.pa.2 with q | ⟨g, cap, cur, q1, q2, q3⟩
  · exact .inl q
  · exact .inr ⟨g, cap, cur, q1, Nat.le_trans hb q2, q3⟩⟩
theorem On.chg {w u : World} {B X : Nat} {T : TypeId} {l : List Value} {v : Value} {n : Nd} (h : On w B v n) (hl : w.heap[X]? = some (bv T l)) (ht : T ≠ 3) (hc : Chg X w u) : On u B v n := ⟨by
  refine ⟨h.pa.1, ?_⟩
  rcases h.pa.2 with ⟨q1, q2⟩ | ⟨g, cap, cur, q1, q2, q3, q4⟩
  · exact .inl ⟨q1, q2⟩
  · refine .inr ⟨g, cap, cur, q1, q2, ?_, q4⟩
    rw [hc.other g ?_]
    · exact q3
    · rintro rfl
      rw [hl] at q3
      injection q3 with q3
      injection q3 with _ q3 _
      exact ht q3⟩
theorem ncl_set (v v' : Value) (n : Nd) : (ncl v n).set 0 v' = ncl v' n := rfl
theorem iw_slice {w : World} {B : Nat} {v : Value} {l : List Int} (h : Iw w B v l) : ∃ p n c, v = .slice p n c := by
  obtain ⟨a, c, e, _⟩ := h.ris.form
  exact ⟨_, _, _, e⟩
set_option maxHeartbeats 2000000 in
theorem copyOf_any (v : Value) (n : Nd) (w : World) (h : Ris w v n.1) (hl : n.1.length ≤ 17592186048000) : Calls Try.prog 21 #[agv (ncl v n)] w fun e u => ∃ v', e = .returned (agv (ncl v' n)) ∧ On u w.heap.size v' n ∧ Below w.heap.size w u := by
  have HR : Hid (Ris w v n.1) := h
  have HL : Hid (n.1.length ≤ 17592186048000) := hl
  have G0 : Hid ((ncl v n)[0]? = some v) := rfl
  have hM := Mm.nil w
  clear h hl
  go_enter Try.func21, Try.ntmps21
  repeat' (first | (go_big_may; first | (refine v_box rfl rfl rfl ?_; intro u xa hN; replace hM := hM.new hN; clear hN) | (refine v_alloc rfl zer_node rfl ?_; intro u xr hN; replace hM := hM.new hN; clear hN) | (refine v_get rfl rfl (.inr rfl) rfl hM.at1 G0.out ?_) | (at_builtin; refine wpList_ints _ rfl _ _ rfl _ _ [] rfl (Iw.nil _ _) _ n.1 rfl (HR.out.below hM.below) (by have := HL.out; simp; omega) (Nat.le_refl _) ?_; intro v' w' q1 q3; have HI : Hid (On w' w.heap.size v' n) := On.mono ⟨q1⟩ hM.below.size; replace hM := hM.call q3; clear q1 q3; obtain ⟨vp, vm, vc, hv'⟩ := iw_slice HI.out.pa; subst hv'; have HV : Hid (Vs (ncl (.slice vp vm vc) n) 4) := ncl_vs n rfl) | (refine v_put rfl rfl (.inr ⟨rfl, _, _, _, rfl⟩) rfl rfl hM.at1 (Nat.zero_lt_succ 3) ?_; intro u hv hc; replace HI : Hid (On u w.heap.size _ n) := HI.out.chg hM.at1 (by decide) hc; replace hM := hM.put1 hc hv; clear hv hc) | (refine v_load rfl rfl row_node rfl hM.at1 (Nat.le_refl 4) rfl ?_) | (refine v_fill rfl rfl row_node rfl rfl hM.at0 HV.out rfl ?_; intro u hv hc; replace HI : Hid (On u w.heap.size _ n) := HI.out.chg hM.at0 (by decide) hc; replace hM := hM.put0 hc hv; clear hv hc)) | go_values | go_skip | go_guarded | go_step | go_upon | (simp only [Int.not_lt, Int.not_le] at *; go_simp))
  exact bodyPost_ret (ret_1 Try.results21 rfl (ld_var row_node hM.at0 rfl)) rfl ⟨_, rfl, HI.out, hM.below⟩
/-- the first k have another path -/
def fr (T : List Nd) (p : List Int) (k : Nat) : Prop := fnd (T.drop k) p = fnd T p
theorem fr_zero (T : List Nd) (p : List Int) : fr T p 0 := rfl
theorem fr_hit {T : List Nd} {p : List Int} {k : Nat} {n : Nd} (h : fr T p k) (hk : T[k]? = some n) (he : n.1 = p) : fnd T p = some n := by
  obtain ⟨hl, e⟩ := List.getElem?_eq_some_iff.1 hk
  unfold fr at h
  rw [← h, List.drop_eq_getElem_cons hl, e]
  simp [fnd, he]
theorem fr_next {T : List Nd} {p : List Int} {k : Nat} {n : Nd} (h : fr T p k) (hk : T[k]? = some n) (he : n.1 ≠ p) : fr T p (k + 1) := by
  obtain ⟨hl, e⟩ := List.getElem?_eq_some_iff.1 hk
  unfold fr at h ⊢
  rw [← h, List.drop_eq_getElem_cons hl, e]
  simp [fnd, he]
theorem fr_end {T : List Nd} {p : List Int} {k : Nat} (h : fr T p k) (hk : T.length ≤ k) : fnd T p = none := by
  unfold fr at h
  rw [← h, List.drop_eq_nil_of_le hk]
  rfl
def fnN (T : List Nd) (p : List Int) : Nd := (fnd T p).getD zN
def fnB (T : List Nd) (p : List Int) : Bool := (fnd T p).isSome
set_option maxHeartbeats 4000000 in
theorem find_any (v pv : Value) (L : NL) (p : List Int) (w : World) (h : Rt w v L) (hp : Ris w pv p) (hl : ∀ q ∈ L, q.2.1.length ≤ 17592186048000) : Calls Try.prog 15 #[v, pv] w fun e u => ∃ v', e = .returned (.tuple #[agv (ncl v' (fnN (tr L) p)), .bool (fnB (tr L) p)]) ∧ On u w.heap.size v' (fnN (tr L) p) ∧ Below w.heap.size w u := by
  obtain ⟨a, c, rfl, hlc, hcm⟩ := h.form
  have HAT : Hid (∀ k q, L[k]? = some q → ∃ g off, a = some ⟨g, off, none⟩ ∧ ∀ u, Below w.heap.size w u → u.rangeAt g (off + k * 4) (ncl q.1 q.2) ∧ Ris u q.1 q.2.1) := fun k q hq => h.at k q hq
  have HEQ : Hid (∀ q : Value × Nd, ∀ u, Ris u q.1 q.2.1 → Below w.heap.size w u → Calls Try.prog 8 #[q.1, pv] u fun e w' => e = .returned (.bool (decide (q.2.1 = p))) ∧ Below u.heap.size u w') := fun q u hr hb => equalI_any q.1 pv _ _ u hr (hp.below hb)
  have HCO : Hid (∀ q ∈ L, ∀ u, Ris u q.1 q.2.1 → Calls Try.prog 21 #[agv (ncl q.1 q.2)] u fun e u' => ∃ v', e = .returned (agv (ncl v' q.2)) ∧ On u' u.heap.size v' q.2 ∧ Below u.heap.size u u') := fun q hq u hr => copyOf_any q.1 q.2 u hr (hl q hq)
  obtain ⟨n, hn⟩ : ∃ n, L.length = n := ⟨_, rfl⟩
  have HN : Hid (L.length = n) := hn
  rw [hn] at hlc ⊢
  have HF : Hid (∀ k x, fr (tr L) p k → L[k]? = some x → x.2.1 = p → fnN (tr L) p = x.2 ∧ fnB (tr L) p = true) := fun k x hf hk he => by
    have := fr_hit hf (tr_at hk) he
    unfold fnN fnB
    rw [this]
    exact ⟨rfl, rfl⟩
  have HE : Hid (∀ k, fr (tr L) p k → n ≤ k → fnN (tr L) p = zN ∧ fnB (tr L) p = false) := fun k hf hk => by
    have := fr_end hf (by rw [tr_len, hn]; exact hk)
    unfold fnN fnB
    rw [this]
    exact ⟨rfl, rfl⟩
  obtain ⟨rN, hrN⟩ : ∃ r, fnN (tr L) p = r := ⟨_, rfl⟩
  obtain ⟨rB, hrB⟩ : ∃ r, fnB (tr L) p = r := ⟨_, rfl⟩
  rw [hrN, hrB] at HF HE ⊢
  unfold maxLen at hcm
  have hM := Mm.nil w
  clear h hp hl hn hrN hrB
  go_enter Try.func15, Try.ntmps15
  repeat' (first | (go_big_may; first | (refine v_alloc rfl zer_node rfl ?_; intro u xr hN; replace hM := hM.new hN; clear hN)) | go_values | go_skip | go_guarded | go_step | go_upon | (simp only [Int.not_lt, Int.not_le] at *; go_simp))
  have HM : Hid (Mm w u [(xr, 25, ncl nilS zN)]) := hM
  clear hM
  go_loopw [7, 10] (fun _ i wr => ∃ k : Nat, k ≤ n ∧ i = .int .i64 (k : Int) ∧ Hid (Mm w wr [(xr, 25, ncl nilS zN)] ∧ fr (tr L) p k)) (fun _ i _ => n - (intOf i).toNat)
  case atStart => exact ⟨0, Nat.zero_le _, rfl, HM.out, fr_zero _ _⟩
  case round =>
    clear HM
    obtain ⟨k, hk, rfl, HA⟩ := hrel
    have hM := HA.out.1
    have HFR : Hid (fr (tr L) p k) := HA.out.2
    clear HA
    by_cases hlt : ¬ k < n
    · obtain ⟨q1, q2⟩ := HE.out k HFR.out (by omega)
      subst q1 q2
      have HV : Hid (Vs (ncl nilS zN) 4) := ncl_vs zN rfl
      clear HF HE HAT HEQ HCO HFR
      repeat' (first | (go_big_may; first | (refine v_build rfl rfl bld_zero ?hbv ?_; (case hbv => simp [Act.eval, Act.put])) | (refine v_fill rfl rfl row_node rfl rfl hM.at0 HV.out rfl ?_; intro u hv hc; replace hM := hM.put0 hc hv; clear hv hc)) | go_values | go_skip | go_guarded | go_step | go_upon | (simp only [Int.not_lt, Int.not_le] at *; go_simp))
      exact bodyPost_ret (ret_2 Try.results15 rfl (ld_var row_node hM.at0 rfl) rfl) rfl ⟨_, rfl, ⟨Iw.nil _ _⟩, hM.below⟩
    have hlt : k < n := by omega
    obtain ⟨⟨qv, m⟩, hq⟩ : ∃ q, L[k]? = some q := ⟨_, List.getElem?_eq_getElem (by have := HN.out; omega)⟩
    obtain ⟨g, off, rfl, hat⟩ := HAT.out k _ hq
    have HRG : Hid (∀ u, Below w.heap.size w u → u.rangeAt g (off + k * 4) (ncl qv m)) := fun u hb => (hat u hb).1
    have HRI : Hid (∀ u, Below w.heap.size w u → Ris u qv m.1) := fun u hb => (hat u hb).2
    have HVQ : Hid (Vs (ncl qv m) 4) := ncl_vs m (ris_one (hat w (Below.refl _ _)).2)
    have HEQ2 : Hid (∀ u, Below w.heap.size w u → Calls Try.prog 8 #[qv, pv] u fun e w' => e = .returned (.bool (decide (m.1 = p))) ∧ Below u.heap.size u w') := fun u hb => HEQ.out (qv, m) u (hat u hb).2 hb
    have HCO2 : Hid (∀ u, Below w.heap.size w u → Calls Try.prog 21 #[agv (ncl qv m)] u fun e u' => ∃ v', e = .returned (agv (ncl v' m)) ∧ On u' u.heap.size v' m ∧ Below u.heap.size u u') := fun u hb => HCO.out (qv, m) (List.mem_of_getElem? hq) u (hat u hb).2
    have G0 : Hid ((ncl qv m)[0]? = some qv) := rfl
    have HH : Hid (m.1 = p → rN = m ∧ rB = true) := fun he => HF.out k _ HFR.out hq he
    have HX : Hid (m.1 ≠ p → fr (tr L) p (k + 1)) := fun he => fr_next HFR.out (tr_at hq) he
    clear HF HE HAT HEQ HCO HFR hat hq
    repeat' (first | (go_big_may; first | (refine v_ldR rfl rfl row_node rfl (HRG.out _ hM.below) rfl ?_) | (refine v_alloc rfl zer_node rfl ?_; intro u xn hN; replace hM := hM.new hN; clear hN) | (refine v_fill rfl rfl row_node rfl rfl hM.at0 HVQ.out rfl ?_; intro u hv hc; replace hM := hM.put0 hc hv; clear hv hc) | (refine v_get rfl rfl (.inr rfl) rfl hM.at0 G0.out ?_)) | go_values | go_skip | go_guarded | go_step | go_upon | (simp only [Int.not_lt, Int.not_le] at *; go_simp))
    refine (HEQ2.out _ hM.below).mono ?_
    rintro e u1 ⟨rfl, hb⟩
    replace hM := hM.call hb
    clear hb HEQ2
    by_cases he : m.1 = p
    · obtain ⟨q1, q2⟩ := HH.out he
      subst q1 q2
      rw [decide_eq_true he]
      clear HX HH he
      repeat' (first | (go_big_may; first | (refine v_load rfl rfl row_node rfl hM.at0 (Nat.le_refl 4) rfl ?_)) | go_values | go_skip | go_guarded | go_step | go_upon | (simp only [Int.not_lt, Int.not_le] at *; go_simp))
      refine (HCO2.out _ hM.below).mono ?_
      rintro e u2 ⟨v', rfl, ho, hb⟩
      have HI : Hid (On u2 w.heap.size v' rN) := ho.mono hM.below.size
      replace hM := hM.call hb
      have HV : Hid (Vs (ncl v' rN) 4) := ncl_vs rN (ris_one ho.ris)
      clear ho hb HCO2
      repeat' (first | (go_big_may; first | (refine v_fill rfl rfl row_node rfl rfl hM.at1 HV.out rfl ?_; intro u hv hc; replace HI : Hid (On u w.heap.size _ rN) := HI.out.chg hM.at1 (by decide) hc; replace hM := hM.put1 hc hv; clear hv hc)) | go_values | go_skip | go_guarded | go_step | go_upon | (simp only [Int.not_lt, Int.not_le] at *; go_simp))
      exact bodyPost_ret (ret_2 Try.results15 rfl (ld_var row_node hM.at1 rfl) rfl) rfl ⟨_, rfl, HI.out, hM.below⟩
    · have HY := HX.out he
      rw [decide_eq_false he]
      clear HX HH he HCO2
      have HQ : Hid (Mm w u1 [(xr, 25, ncl nilS zN)]) := hM.sub (by simp)
      clear hM
      repeat' (first | go_values | go_skip | go_guarded | go_step | go_upon | (simp only [Int.not_lt, Int.not_le] at *; go_simp))
      go_roundw
      case rel => exact ⟨k + 1, by omega, by go_num, HQ.out, HY⟩
      case measure => simp [intOf]; omega
end Go.Proofs.Ytemlafdmeaobfab.topo
