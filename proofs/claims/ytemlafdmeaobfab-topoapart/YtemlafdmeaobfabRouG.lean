/- route: what plugref's Path, PathNum and NumPath answer. -/
import Derived.Test.YtemlafdmeaobfabRouE
namespace Go.Proofs.Ytemlafdmeaobfab.route
open Go Go.RowKit
set_option linter.unusedVariables false
set_option linter.unusedSimpArgs false
set_option maxRecDepth 100000

/-- the least of what is left and x -/
def mn (x : Int) (l : List Int) : Int := l.foldl (fun a b => if b < a then b else a) x
def mx (x : Int) (l : List Int) : Int := l.foldl (fun a b => if a < b then b else a) x
theorem mn_cons (x y : Int) (l : List Int) : mn x (y :: l) = mn (if y < x then y else x) l := rfl
theorem mx_cons (x y : Int) (l : List Int) : mx x (y :: l) = mx (if x < y then y else x) l := rfl
theorem mn_lt (x : Int) (l : List Int) : mn x l < 1 ↔ x < 1 ∨ ∃ y ∈ l, y < 1 := by
  induction l generalizing x with
  | nil => simp [mn]
  | cons y l ih =>
    rw [mn_cons, ih]
    simp only [List.mem_cons, exists_eq_or_imp]
    have e : ((if y < x then y else x) < 1) ↔ (x < 1 ∨ y < 1) := by split <;> omega
    rw [e, or_assoc]
theorem mx_gt (x : Int) (l : List Int) : 15 < mx x l ↔ 15 < x ∨ ∃ y ∈ l, 15 < y := by
  induction l generalizing x with
  | nil => simp [mx]
  | cons y l ih =>
    rw [mx_cons, ih]
    simp only [List.mem_cons, exists_eq_or_imp]
    have e : (15 < (if x < y then y else x)) ↔ (15 < x ∨ 15 < y) := by split <;> omega
    rw [e, or_assoc]
set_option maxHeartbeats 2000000 in
theorem min_any (v : Value) (x : Int) (l : List Int) (w : World) (hv : Ris w v (x :: l)) (hl : l.length ≤ 1000) : Calls Try.prog 45 #[v] w fun e w' => e = .returned (.int .i64 (mn x l)) ∧ w = w' := by
  obtain ⟨a, c, rfl, hlc, hcm⟩ := hv.form
  have HR : Hid (Ris w (.slice a (x :: l).length c) (x :: l)) := hv
  obtain ⟨g, off, rfl, h0⟩ := hv.at 0 x rfl
  obtain ⟨n, hn⟩ : ∃ n, l.length = n := ⟨_, rfl⟩
  have hn1 : (x :: l).length = n + 1 := by simp [hn]
  rw [hn1] at HR hlc ⊢
  have HN : Hid (l.length = n) := hn
  rw [hn] at hl
  obtain ⟨N, hN⟩ : ∃ N, n + 1 = N := ⟨_, rfl⟩
  rw [hN] at HR hlc ⊢
  have HN1 : Hid (n + 1 = N) := hN
  have hNb : N ≤ 1001 := by omega
  have hN1 : 1 ≤ N := by omega
  obtain ⟨z, hz⟩ : ∃ z, mn x l = z := ⟨_, rfl⟩
  have HZ : Hid (mn x (l.drop 0) = z) := hz
  rw [hz]
  unfold maxLen at hcm
  rw [Nat.add_zero] at h0
  clear hv hn hn1 hN hz hl
  go_enter Try.func45, Try.ntmps45
  go_wp2
  go_loopw [3, 4] (fun m i wr => ∃ (k : Nat) (y : Int), 1 ≤ k ∧ k ≤ N ∧ m = .int .i64 y ∧ i = .int .i64 (k : Int) ∧ w = wr ∧ Hid (mn y (l.drop (k - 1)) = z)) (fun _ i _ => N - (intOf i).toNat)
  case atStart => exact ⟨1, x, Nat.le_refl _, hN1, rfl, rfl, rfl, HZ.out⟩
  case round =>
    clear HZ
    obtain ⟨k, y, hk1, hk, rfl, rfl, rfl, HR2⟩ := hrel
    by_cases hlt : ¬ k < N
    · have HE : Hid (y = z) := by
        have := HR2.out
        rw [List.drop_eq_nil_of_le (by have := HN.out; have := HN1.out; omega)] at this
        exact this
      clear HR2
      go_wp2
      go_ret
      rw [HE.out]
      exact ⟨rfl, rfl⟩
    have hlt : k < N := by omega
    have hkl : k - 1 < l.length := by have := HN.out; have := HN1.out; omega
    have hidx : (x :: l)[k]? = l[k - 1]? := by
      cases k with
      | zero => omega
      | succ j => simp
    obtain ⟨g2, off2, e, hcell⟩ := HR.out.at k l[k - 1] (hidx.trans (List.getElem?_eq_getElem hkl))
    clear hidx
    injection e with e
    injection e with e1 e2
    subst e1 e2
    have h2 := HR2.out
    rw [List.drop_eq_getElem_cons hkl, mn_cons, show k - 1 + 1 = k by omega] at h2
    generalize l[k - 1] = t at hcell h2
    obtain ⟨r, hr⟩ : ∃ r, (if t < y then t else y) = r := ⟨_, rfl⟩
    rw [hr] at h2
    have HQ : Hid (mn r (l.drop k) = z) := h2
    clear h2 HR2 hkl
    go_wp2
    go_roundw
    case rel => exact ⟨k + 1, r, by omega, by omega, by first | rfl | (rw [hr]), by go_num, trivial, HQ.out⟩
    case measure => simp [intOf]; omega
set_option maxHeartbeats 2000000 in
theorem max_any (v : Value) (x : Int) (l : List Int) (w : World) (hv : Ris w v (x :: l)) (hl : l.length ≤ 1000) : Calls Try.prog 46 #[v] w fun e w' => e = .returned (.int .i64 (mx x l)) ∧ w = w' := by
  obtain ⟨a, c, rfl, hlc, hcm⟩ := hv.form
  have HR : Hid (Ris w (.slice a (x :: l).length c) (x :: l)) := hv
  obtain ⟨g, off, rfl, h0⟩ := hv.at 0 x rfl
  obtain ⟨n, hn⟩ : ∃ n, l.length = n := ⟨_, rfl⟩
  have hn1 : (x :: l).length = n + 1 := by simp [hn]
  rw [hn1] at HR hlc ⊢
  have HN : Hid (l.length = n) := hn
  rw [hn] at hl
  obtain ⟨N, hN⟩ : ∃ N, n + 1 = N := ⟨_, rfl⟩
  rw [hN] at HR hlc ⊢
  have HN1 : Hid (n + 1 = N) := hN
  have hNb : N ≤ 1001 := by omega
  have hN1 : 1 ≤ N := by omega
  obtain ⟨z, hz⟩ : ∃ z, mx x l = z := ⟨_, rfl⟩
  have HZ : Hid (mx x (l.drop 0) = z) := hz
  rw [hz]
  unfold maxLen at hcm
  rw [Nat.add_zero] at h0
  clear hv hn hn1 hN hz hl
  go_enter Try.func46, Try.ntmps46
  go_wp2
  go_loopw [3, 4] (fun m i wr => ∃ (k : Nat) (y : Int), 1 ≤ k ∧ k ≤ N ∧ m = .int .i64 y ∧ i = .int .i64 (k : Int) ∧ w = wr ∧ Hid (mx y (l.drop (k - 1)) = z)) (fun _ i _ => N - (intOf i).toNat)
  case atStart => exact ⟨1, x, Nat.le_refl _, hN1, rfl, rfl, rfl, HZ.out⟩
  case round =>
    clear HZ
    obtain ⟨k, y, hk1, hk, rfl, rfl, rfl, HR2⟩ := hrel
    by_cases hlt : ¬ k < N
    · have HE : Hid (y = z) := by
        have := HR2.out
        rw [List.drop_eq_nil_of_le (by have := HN.out; have := HN1.out; omega)] at this
        exact this
      clear HR2
      go_wp2
      go_ret
      rw [HE.out]
      exact ⟨rfl, rfl⟩
    have hlt : k < N := by omega
    have hkl : k - 1 < l.length := by have := HN.out; have := HN1.out; omega
    have hidx : (x :: l)[k]? = l[k - 1]? := by
      cases k with
      | zero => omega
      | succ j => simp
    obtain ⟨g2, off2, e, hcell⟩ := HR.out.at k l[k - 1] (hidx.trans (List.getElem?_eq_getElem hkl))
    clear hidx
    injection e with e
    injection e with e1 e2
    subst e1 e2
    have h2 := HR2.out
    rw [List.drop_eq_getElem_cons hkl, mx_cons, show k - 1 + 1 = k by omega] at h2
    generalize l[k - 1] = t at hcell h2
    obtain ⟨r, hr⟩ : ∃ r, (if y < t then t else y) = r := ⟨_, rfl⟩
    rw [hr] at h2
    have HQ : Hid (mx r (l.drop k) = z) := h2
    clear h2 HR2 hkl
    go_wp2
    go_roundw
    case rel => exact ⟨k + 1, r, by omega, by omega, by first | rfl | (rw [hr]), by go_num, trivial, HQ.out⟩
    case measure => simp [intOf]; omega
/-- what Path says: just what Check does -/
theorem chk_ref {x : Int} {l : List Int} (h : l.length ≤ 5) : chk (x :: l) = if mn x l < 1 ∨ 15 < mx x l then 1 else 0 := by
  unfold chk
  rw [if_neg (by simp), if_neg (by simp; omega)]
  have e : anyNo (x :: l) = true ↔ mn x l < 1 ∨ 15 < mx x l := by
    rw [mn_lt, mx_gt]
    unfold anyNo
    rw [List.any_eq_true]
    constructor
    · rintro ⟨y, hy, hn⟩
      have hn' : y < 1 ∨ 15 < y := by simpa [nop] using hn
      rcases List.mem_cons.1 hy with rfl | hy
      · rcases hn' with q | q
        · exact .inl (.inl q)
        · exact .inr (.inl q)
      · rcases hn' with q | q
        · exact .inl (.inr ⟨y, hy, q⟩)
        · exact .inr (.inr ⟨y, hy, q⟩)
    · rintro ((q | ⟨y, hy, q⟩) | (q | ⟨y, hy, q⟩))
      · exact ⟨x, List.mem_cons_self .., by simp [nop, q]⟩
      · exact ⟨y, List.mem_cons_of_mem _ hy, by simp [nop, q]⟩
      · exact ⟨x, List.mem_cons_self .., by simp [nop, q]⟩
      · exact ⟨y, List.mem_cons_of_mem _ hy, by simp [nop, q]⟩
  by_cases h2 : mn x l < 1 ∨ 15 < mx x l
  · rw [if_pos (e.2 h2), if_pos h2]
  · rw [if_neg (fun q => h2 (e.1 q)), if_neg h2]
set_option maxHeartbeats 2000000 in
theorem path_any (v : Value) (P : List Int) (w : World) (hv : Ris w v P) : Calls Try.prog 39 #[v] w fun e w' => e = .returned (.int .i64 (chk P)) ∧ w = w' := by
  cases P with
  | nil =>
    obtain ⟨a, c, rfl, hlc, hcm⟩ := hv.form
    show Calls _ _ #[.slice a 0 c] w fun e w' => e = .returned (.int .i64 1) ∧ w = w'
    clear hv
    go_enter Try.func39, Try.ntmps39
    go_wp2
    go_ret
    exact ⟨rfl, rfl⟩
  | cons x l =>
    have HMn : Hid (l.length ≤ 5 → Calls Try.prog 45 #[v] w fun e w' => e = .returned (.int .i64 (mn x l)) ∧ w = w') := fun h => min_any v x l w hv (by omega)
    have HMx : Hid (l.length ≤ 5 → Calls Try.prog 46 #[v] w fun e w' => e = .returned (.int .i64 (mx x l)) ∧ w = w') := fun h => max_any v x l w hv (by omega)
    have HC : Hid (l.length ≤ 5 → chk (x :: l) = if mn x l < 1 ∨ 15 < mx x l then 1 else 0) := fun h => chk_ref h
    have HD : Hid (5 < l.length → chk (x :: l) = 2) := fun h => by unfold chk; rw [if_neg (by simp), if_pos (by simp; omega)]
    obtain ⟨a, c, rfl, hlc, hcm⟩ := hv.form
    obtain ⟨z, hz⟩ : ∃ z, chk (x :: l) = z := ⟨_, rfl⟩
    rw [hz] at HC HD ⊢
    have hln : (x :: l).length = l.length + 1 := rfl
    obtain ⟨n, hn⟩ : ∃ n, (x :: l).length = n := ⟨_, rfl⟩
    rw [hn] at HMn HMx hlc ⊢
    unfold maxLen at hcm
    have hn0 : ((n : Int) == 0) = false := by rw [beq_eq_false_iff_ne]; omega
    by_cases h6 : 6 < n
    · have hz2 := HD.out (by omega)
      subst hz2
      clear HMn HMx HC HD hv hz
      go_enter Try.func39, Try.ntmps39
      go_wp2
      go_ret
      exact ⟨rfl, rfl⟩
    · have HMn2 : Hid (Calls Try.prog 45 #[.slice a n c] w fun e w' => e = .returned (.int .i64 (mn x l)) ∧ w = w') := HMn.out (by omega)
      have HMx2 : Hid (Calls Try.prog 46 #[.slice a n c] w fun e w' => e = .returned (.int .i64 (mx x l)) ∧ w = w') := HMx.out (by omega)
      have hC := HC.out (by omega)
      clear HMn HMx HC HD hv hz
      generalize mn x l = p at HMn2 hC
      generalize mx x l = q at HMx2 hC
      have h6 : n ≤ 6 := by omega
      clear hln hn
      by_cases hp : p < 1
      · rw [if_pos (.inl hp)] at hC
        subst hC
        go_enter Try.func39, Try.ntmps39
        go_wp2_with fail
        refine (HMn2.out).mono ?_
        rintro e u ⟨rfl, rfl⟩
        clear HMn2 HMx2
        go_wp2
        go_ret
        exact ⟨rfl, rfl⟩
      · by_cases hq : 15 < q
        · rw [if_pos (.inr hq)] at hC
          subst hC
          go_enter Try.func39, Try.ntmps39
          go_wp2_with fail
          refine (HMn2.out).mono ?_
          rintro e u ⟨rfl, rfl⟩
          go_wp2_with fail
          refine (HMx2.out).mono ?_
          rintro e u ⟨rfl, rfl⟩
          clear HMn2 HMx2
          go_wp2
          go_ret
          exact ⟨rfl, rfl⟩
        · rw [if_neg (by omega)] at hC
          subst hC
          go_enter Try.func39, Try.ntmps39
          go_wp2_with fail
          refine (HMn2.out).mono ?_
          rintro e u ⟨rfl, rfl⟩
          go_wp2_with fail
          refine (HMx2.out).mono ?_
          rintro e u ⟨rfl, rfl⟩
          clear HMn2 HMx2
          go_wp2
          go_ret
          exact ⟨rfl, rfl⟩
end Go.Proofs.Ytemlafdmeaobfab.route
