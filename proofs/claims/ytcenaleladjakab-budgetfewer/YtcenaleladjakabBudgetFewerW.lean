/- BudgetFewer: without one of the tasks, or with a lane more, there is a plan where there was one. -/
import Derived.Test.YtcenaleladjakabBudCl
import Derived.Test.YtcenaleladjakabShelf
namespace Go.Proofs.Ytcenaleladjakab.budgetFewer
open Go.RowKit Go.Proofs.Ytcenaleladjakab.budget
set_option linter.unusedVariables false
set_option linter.unusedSimpArgs false
set_option maxRecDepth 100000

/-- values from place o on -/
def rp : List Value → Nat → List Value → List Value
  | l, _, [] => l
  | l, o, v :: vs => rp (l.set o v) (o + 1) vs
theorem rp_before : ∀ (vs l : List Value) (o j : Nat), j < o → (rp l o vs)[j]? = l[j]?
  | [], l, o, j, h => rfl
  | v :: vs, l, o, j, h => by
    unfold rp
    rw [rp_before vs _ _ _ (by omega), List.getElem?_set_ne (by omega)]
theorem rp_at : ∀ (vs l : List Value) (o j : Nat), o + vs.length ≤ l.length → j < vs.length → (rp l o vs)[o + j]? = vs[j]?
  | [], l, o, j, _, h => by simp at h
  | v :: vs, l, o, 0, hl, h => by
    have h1 := rp_before vs (l.set o v) (o + 1) o (by omega)
    show (rp (l.set o v) (o + 1) vs)[o]? = some v
    rw [h1, List.getElem?_set_self (by simp at hl; omega)]
  | v :: vs, l, o, j + 1, hl, h => by
    unfold rp
    have := rp_at vs (l.set o v) (o + 1) j (by simp at hl ⊢; omega) (by simpa using h)
    rw [show o + (j + 1) = o + 1 + j by omega, this]
    rfl
theorem setCells_bv {g : Nat} {T : TypeId} : ∀ (vs : List Value) (o : Nat) (w : World) (l : List Value), w.heap[g]? = some (bv T l) → (w.setCells g o vs).heap[g]? = some (bv T (rp l o vs)) ∧ Chg g w (w.setCells g o vs)
  | [], o, w, l, h => ⟨h, Chg.refl _ _⟩
  | v :: vs, o, w, l, h => by
    have h1 := set_bv (j := o) (x := v) h
    have h2 := setCells_bv vs (o + 1) _ _ h1.1
    exact ⟨h2.1, h1.2.trans h2.2⟩
def fewer (P : List Int) (o : Nat) : List Int := P.take o ++ P.drop (o + 1)
theorem share_map (P : List Int) : shareN P = (P.map fun p => 32 / p.toNat).sum := by
  unfold shareN
  congr 1
  apply List.ext_getElem?
  intro j
  rw [List.getElem?_map, List.getElem?_map]
  by_cases hj : j < P.length
  · rw [List.getElem?_range hj, List.getElem?_eq_getElem hj]
    simp [pN, hj]
  · rw [List.getElem?_eq_none (by simp; omega), List.getElem?_eq_none (by omega)]
    rfl
theorem fewer_share {P : List Int} {o : Nat} (h : o < P.length) : shareN (fewer P o) ≤ shareN P := by
  rw [share_map, share_map]
  have e : P = P.take o ++ (P[o] :: P.drop (o + 1)) := by rw [← List.drop_eq_getElem_cons h, List.take_append_drop]
  have h1 : (P.map fun p => 32 / p.toNat).sum = ((P.take o).map fun p => 32 / p.toNat).sum + (32 / (P[o]).toNat + ((P.drop (o + 1)).map fun p => 32 / p.toNat).sum) := by
    conv => lhs; rw [e]
    rw [List.map_append, List.sum_append, List.map_cons, List.sum_cons]
  unfold fewer
  rw [h1, List.map_append, List.sum_append]
  generalize 32 / (P[o]).toNat = q
  omega
theorem fewer_ok {P : List Int} {o : Nat} (h : okP P) : okP (fewer P o) := fun p hp => by
  rcases List.mem_append.1 hp with q | q
  · exact h p (List.mem_of_mem_take q)
  · exact h p (List.mem_of_mem_drop q)
theorem chk_zero {P : List Int} {M : Nat} (hP : okP P) (hl : P.length ≤ 64) (hM1 : 1 ≤ M) (hM8 : M ≤ 8) : chk P (M : Int) = 0 := by
  unfold chk
  rw [if_neg (by omega), if_neg (by omega), if_neg]
  intro q
  obtain ⟨p, hp, hq⟩ := List.any_eq_true.1 q
  have := nop_iff.2 (hP p hp)
  rw [hq] at this
  exact absurd this (by simp)
theorem plC_zero {P : List Int} {M : Nat} (hP : okP P) (hl : P.length ≤ 64) (hM1 : 1 ≤ M) (hM8 : M ≤ 8) (hs : shareN P ≤ 32 * M) : plC P (M : Int) = 0 := by
  unfold plC
  rw [if_pos (chk_zero hP hl hM1 hM8), Int.toNat_natCast]
  cases h : plan P M with
  | none =>
    have := kraft_no hP h
    omega
  | some B => rfl
set_option maxHeartbeats 4000000 in
theorem delete_any {w0 w : World} {v : Value} {P : List Int} {o : Nat} (h : Iw w w0.heap.size v P) (ho : o < P.length) (hl : P.length ≤ 64) :
    Calls Try.prog 7 #[v, .int .i64 (o : Int), .int .i64 ((o + 1 : Nat) : Int)] w fun e u => ∃ v', e = .returned v' ∧ Ris u v' (fewer P o) ∧ (∀ x : World, Below w0.heap.size x w → Below w0.heap.size x u) := by
  have hri := h.ris
  rcases h.2 with ⟨_, h0⟩ | ⟨g, cap, cur, rfl, hB, hg, hnc, hcm, hs, ht⟩
  · omega
  have hg2 : w.heap[g]? = some (bv 3 cur.toList) := by rw [hg]; simp [bv]
  have hcl : P.length ≤ cur.toList.length := by simp; omega
  refine (Go.Proofs.Try.slices_Delete_int_cells g 0 P.length cap o (o + 1) P w (Nat.le_refl _) hnc (by unfold maxLen at hcm; omega) (by omega) (by omega) (fun j hj => ?_) (fun j hj => bv_free hg2 _)).mono ?_
  · obtain ⟨g', off', e1, e2⟩ := hri.at j _ (List.getElem?_eq_getElem hj)
    injection e1 with e1
    injection e1 with z1 z2 _
    subst z1 z2
    rw [getD_at hj]
    exact e2
  · rintro e u ⟨rfl, q, rfl⟩
    refine ⟨_, rfl, ?_, ?_⟩
    · have hd : (w.drewN q).heap[g]? = some (bv 3 cur.toList) := hg2
      have h2 := setCells_bv (List.map (Value.int .i64) ((P.take P.length).take o ++ (P.take P.length).drop (o + 1) ++ List.replicate (o + 1 - o) 0)) 0 _ _ hd
      have hln : (fewer P o).length = P.length - 1 := by unfold fewer; simp; omega
      refine ⟨some ⟨g, 0, none⟩, cap, by rw [hln]; congr 1; omega, by rw [hln]; omega, hcm, fun _ => ⟨g, 0, rfl, bx_lt h2.1, fun j x hx => ?_⟩⟩
      have hj := (List.getElem?_eq_some_iff.1 hx).1
      refine bv_cell h2.1 ?_
      rw [rp_at _ _ 0 j (by simp; omega) (by simp; omega)]
      rw [List.getElem?_map, List.getElem?_append_left (by simp; omega), List.take_of_length_le (Nat.le_refl P.length)]
      unfold fewer at hx
      rw [hx]
      rfl
    · intro x hx
      have hd : (w.drewN q).heap[g]? = some (bv 3 cur.toList) := hg2
      have h2 := setCells_bv (List.map (Value.int .i64) ((P.take P.length).take o ++ (P.take P.length).drop (o + 1) ++ List.replicate (o + 1 - o) 0)) 0 _ _ hd
      exact h2.2.below _ _ hB (below_drewN hx q)
set_option maxHeartbeats 8000000 in
theorem walk (v : Value) (P : List Int) (m o : Int) (wm : (Lit.int .i64 m).wf = true) (wo : (Lit.int .i64 o).wf = true) (w : World) (hp : Ris w v P) :
    Calls Try.prog 3 #[v, .int .i64 m, .int .i64 o] w fun e w' => e = .returned (.bool true) ∧ Below w.heap.size w w' := by
  clear wm wo
  have HP : Hid (∀ (x : Value) (Q : List Int) (k : Int) (u : World), Ris u x Q → Calls Try.prog 5 #[x, .int .i64 k] u fun e u' => ∃ pv, e = .returned (.tuple #[pv, .int .i64 (plC Q k)]) ∧ Below u.heap.size u u') := fun x Q k u h => (plan_any x Q k u h).mono (fun e u' ⟨pv, h1, _, h3⟩ => ⟨pv, h1, h3⟩)
  have HL : Hid (∀ u, Calls Try.prog 6 #[] u fun e w' => e = .returned (.bool true) ∧ Below u.heap.size u w') := lives_any
  have HRV : Hid (Ris w v P) := hp
  obtain ⟨va, vc, rfl, hvl, hvm⟩ := hp.form
  obtain ⟨n, hn⟩ : ∃ n, P.length = n := ⟨_, rfl⟩
  rw [hn] at HRV ⊢
  have HN : Hid (P.length = n) := hn
  clear hp hn hvl hvm
  by_cases hmain : plC P m = 0 ∧ 0 ≤ o ∧ o < (n : Int)
  · obtain ⟨hc0, ho1, ho2⟩ := hmain
    obtain ⟨O, rfl⟩ := Int.eq_ofNat_of_zero_le ho1
    rcases plan_cases P m with ⟨_, hc⟩ | ⟨M, rfl, hM1, hM8, hl, hP, _, hq⟩
    · omega
    rcases hq with ⟨_, hc, _⟩ | ⟨B, _, _, _, hsh⟩
    · omega
    have hO : O < P.length := by have := HN.out; omega
    have hf0 : plC (fewer P O) (M : Int) = 0 := plC_zero (fewer_ok hP) (by unfold fewer; simp; omega) hM1 hM8 (Nat.le_trans (fewer_share hO) hsh)
    have hg0 : plC P ((M + 1 : Nat) : Int) = 0 ∨ M = 8 := by
      by_cases q : M = 8
      · exact .inr q
      · exact .inl (plC_zero hP hl (by omega) (by omega) (by omega))
    have HCI : Hid (∀ u, Below w.heap.size w u → Calls Try.prog 8 #[.slice va n vc] u fun e w' => ∃ v', e = .returned v' ∧ Iw w' u.heap.size v' P ∧ Below u.heap.size u w') := fun u hb => cloneI_any _ P u (HRV.out.below hb) (by omega)
    have HDe : Hid (∀ (u0 u : World) (x : Value), Iw u u0.heap.size x P → Calls Try.prog 7 #[x, .int .i64 (O : Int), .int .i64 ((O + 1 : Nat) : Int)] u fun e u' => ∃ v', e = .returned v' ∧ Ris u' v' (fewer P O) ∧ (∀ y : World, Below u0.heap.size y u → Below u0.heap.size y u')) := fun u0 u x h => delete_any h hO hl
    have HP1 : Hid (∀ u, Below w.heap.size w u → Calls Try.prog 5 #[.slice va n vc, .int .i64 (M : Int)] u fun e u' => ∃ pv, e = .returned (.tuple #[pv, .int .i64 0]) ∧ Below u.heap.size u u') := fun u hb => by have := HP.out _ P (M : Int) u (HRV.out.below hb); rw [hc0] at this; exact this
    have HP2 : Hid (∀ x u, Ris u x (fewer P O) → Calls Try.prog 5 #[x, .int .i64 (M : Int)] u fun e u' => ∃ pv, e = .returned (.tuple #[pv, .int .i64 0]) ∧ Below u.heap.size u u') := fun x u h => by have := HP.out x (fewer P O) (M : Int) u h; rw [hf0] at this; exact this
    obtain ⟨gc, hgc⟩ : ∃ gc, plC P ((M + 1 : Nat) : Int) = gc := ⟨_, rfl⟩
    have HP3 : Hid (∀ u, Below w.heap.size w u → Calls Try.prog 5 #[.slice va n vc, .int .i64 ((M + 1 : Nat) : Int)] u fun e u' => ∃ pv, e = .returned (.tuple #[pv, .int .i64 gc]) ∧ Below u.heap.size u u') := fun u hb => by have := HP.out _ P ((M + 1 : Nat) : Int) u (HRV.out.below hb); rw [hgc] at this; exact this
    rw [hgc] at hg0
    obtain ⟨O1, hO1⟩ : ∃ O1, O + 1 = O1 := ⟨_, rfl⟩
    obtain ⟨Mi, hMi⟩ : ∃ Mi, M + 1 = Mi := ⟨_, rfl⟩
    rw [hO1] at HDe
    rw [hMi] at HP3
    have s1 : (O : Int) + 1 = (O1 : Int) := by omega
    have s2 : (M : Int) + 1 = (Mi : Int) := by omega
    have hO64 : O < n := by omega
    have hn64 : n ≤ 64 := by have := HN.out; omega
    clear HP HRV HN hc0 hf0 hP hl hsh hO hgc ho1 ho2
    have last : ∀ b1 : Bool, (gc == 0) = b1 → (b1 = true ∨ M = 8) → Calls Try.prog 3 #[.slice va n vc, .int .i64 (M : Int), .int .i64 (O : Int)] w fun e w' => e = .returned (.bool true) ∧ Below w.heap.size w w' := fun b1 hb1 hor => by
      have e8 : b1 = false → ((M : Int) == 8) = true := fun q => by
        rcases hor with h | h
        · rw [q] at h; exact absurd h (by simp)
        · simp [h]
      have HE8 : Hid (b1 = false → ((M : Int) == 8) = true) := e8
      clear hor e8 hg0
      cases b1 with
      | true =>
        clear HE8
        go_enter Try.func3, Try.ntmps3
        go_wp2_with fail
        refine (HP1.out w (Below.refl _ _)).mono ?_
        rintro e u1 ⟨p1, rfl, hb⟩
        have HB1 : Hid (Below w.heap.size w u1) := hb
        clear hb HP1
        go_wp2_with fail
        refine (HL.out u1).mono ?_
        rintro e u2 ⟨rfl, hb⟩
        have HB2 : Hid (Below w.heap.size w u2) := bsq HB1.out hb
        clear hb HB1 HL
        go_wp2_with fail
        refine (HCI.out u2 HB2.out).mono ?_
        rintro e u3 ⟨cv3, rfl, hI, hb⟩
        have HB3 : Hid (Below u2.heap.size u2 u3 ∧ Iw u3 u2.heap.size cv3 P) := ⟨hb, hI⟩
        clear hb hI HCI
        go_wp2_with fail
        refine (HDe.out u2 u3 cv3 HB3.out.2).mono ?_
        rintro e u4 ⟨dv, rfl, hR, hb⟩
        have HB4 : Hid (Below w.heap.size w u4 ∧ Ris u4 dv (fewer P O)) := ⟨bsq HB2.out (hb u2 HB3.out.1), hR⟩
        clear hb hR HDe HB3 HB2
        go_wp2_with fail
        refine (HP2.out dv u4 HB4.out.2).mono ?_
        rintro e u5 ⟨p5, rfl, hb⟩
        have HB5 : Hid (Below w.heap.size w u5) := bsq HB4.out.1 hb
        clear hb HB4 HP2
        go_wp2_with fail
        refine (HP3.out u5 HB5.out).mono ?_
        rintro e u6 ⟨p6, rfl, hb⟩
        have HB6 : Hid (Below w.heap.size w u6) := bsq HB5.out hb
        clear hb HB5 HP3
        go_wp2
        go_ret
        exact ⟨rfl, HB6.out⟩
      | false =>
        have e88 := HE8.out rfl
        clear HE8
        go_enter Try.func3, Try.ntmps3
        go_wp2_with fail
        refine (HP1.out w (Below.refl _ _)).mono ?_
        rintro e u1 ⟨p1, rfl, hb⟩
        have HB1 : Hid (Below w.heap.size w u1) := hb
        clear hb HP1
        go_wp2_with fail
        refine (HL.out u1).mono ?_
        rintro e u2 ⟨rfl, hb⟩
        have HB2 : Hid (Below w.heap.size w u2) := bsq HB1.out hb
        clear hb HB1 HL
        go_wp2_with fail
        refine (HCI.out u2 HB2.out).mono ?_
        rintro e u3 ⟨cv3, rfl, hI, hb⟩
        have HB3 : Hid (Below u2.heap.size u2 u3 ∧ Iw u3 u2.heap.size cv3 P) := ⟨hb, hI⟩
        clear hb hI HCI
        go_wp2_with fail
        refine (HDe.out u2 u3 cv3 HB3.out.2).mono ?_
        rintro e u4 ⟨dv, rfl, hR, hb⟩
        have HB4 : Hid (Below w.heap.size w u4 ∧ Ris u4 dv (fewer P O)) := ⟨bsq HB2.out (hb u2 HB3.out.1), hR⟩
        clear hb hR HDe HB3 HB2
        go_wp2_with fail
        refine (HP2.out dv u4 HB4.out.2).mono ?_
        rintro e u5 ⟨p5, rfl, hb⟩
        have HB5 : Hid (Below w.heap.size w u5) := bsq HB4.out.1 hb
        clear hb HB4 HP2
        go_wp2_with fail
        refine (HP3.out u5 HB5.out).mono ?_
        rintro e u6 ⟨p6, rfl, hb⟩
        have HB6 : Hid (Below w.heap.size w u6) := bsq HB5.out hb
        clear hb HB5 HP3
        go_wp2
        go_ret
        exact ⟨rfl, HB6.out⟩
    exact last _ rfl (by rcases hg0 with h | h; exact .inl (by simp [h]); exact .inr h)
  · have HP1 : Hid (Calls Try.prog 5 #[.slice va n vc, .int .i64 m] w fun e u' => ∃ pv, e = .returned (.tuple #[pv, .int .i64 (plC P m)]) ∧ Below w.heap.size w u') := HP.out _ P m w HRV.out
    obtain ⟨z, hz⟩ : ∃ z, plC P m = z := ⟨_, rfl⟩
    rw [hz] at HP1 hmain
    clear HP HRV HN hz
    have rest : ∀ b1 b2 b3 : Bool, (z != 0) = b1 → decide (o < 0) = b2 → decide ((n : Int) ≤ o) = b3 → (b1 = true ∨ b2 = true ∨ b3 = true) → Calls Try.prog 3 #[.slice va n vc, .int .i64 m, .int .i64 o] w fun e w' => e = .returned (.bool true) ∧ Below w.heap.size w w' := fun b1 b2 b3 h1 h2 h3 hor => by
      clear hmain
      cases b1 <;> cases b2 <;> cases b3 <;>
        first
        | (exfalso; simp at hor; done)
        | (clear hor
           go_enter Try.func3, Try.ntmps3
           go_wp2_with fail
           refine (HP1.out).mono ?_
           rintro e u1 ⟨p1, rfl, hb⟩
           have HB1 : Hid (Below w.heap.size w u1) := hb
           clear hb HP1
           go_wp2_with fail
           refine (HL.out u1).mono ?_
           rintro e u2 ⟨rfl, hb⟩
           have HB2 : Hid (Below w.heap.size w u2) := bsq HB1.out hb
           clear hb HB1
           go_wp2_with fail
           refine (HL.out u2).mono ?_
           rintro e u3 ⟨rfl, hb⟩
           have HB3 : Hid (Below w.heap.size w u3) := bsq HB2.out hb
           clear hb HB2 HL
           go_wp2
           go_ret
           exact ⟨rfl, HB3.out⟩)
    refine rest _ _ _ rfl rfl rfl ?_
    by_cases q1 : z = 0
    · by_cases q2 : o < 0
      · exact .inr (.inl (by simp [q2]))
      · exact .inr (.inr (by simp; omega))
    · exact .inl (by simp [q1])
end Go.Proofs.Ytcenaleladjakab.budgetFewer
