/- route: what cmp.Compare, slices.Compare and Order answer. -/
import Derived.Test.YtemlafdmeaobfabRouA
namespace Go.Proofs.Ytemlafdmeaobfab.route
open Go Go.RowKit
set_option linter.unusedVariables false
set_option linter.unusedSimpArgs false
set_option maxRecDepth 100000

theorem nan_any (x : Int) (w : World) : Calls Try.prog 52 #[.int .i64 x] w fun e w' => e = .returned (.bool false) ∧ w = w' := by
  have h : (x != x) = false := by simp
  go_enter Try.func52, Try.ntmps52
  go_wp2
  go_ret
  exact ⟨rfl, rfl⟩
def cmpI (x y : Int) : Int := if x < y then -1 else if y < x then 1 else 0
set_option maxHeartbeats 2000000 in
theorem cmp_any (x y : Int) (w : World) : Calls Try.prog 49 #[.int .i64 x, .int .i64 y] w fun e w' => e = .returned (.int .i64 (cmpI x y)) ∧ w = w' := by
  obtain ⟨z, hz⟩ : ∃ z, cmpI x y = z := ⟨_, rfl⟩
  rw [hz]
  unfold cmpI at hz
  have H0 := nan_any x w
  have H1 := nan_any y w
  have H0 : Hid (Calls Try.prog 52 #[.int .i64 x] w fun e w' => e = .returned (.bool false) ∧ w = w') := H0
  have H1 : Hid (Calls Try.prog 52 #[.int .i64 y] w fun e w' => e = .returned (.bool false) ∧ w = w') := H1
  by_cases h1 : x < y
  · rw [if_pos h1] at hz
    subst hz
    go_enter Try.func49, Try.ntmps49
    go_wp2_with fail
    refine (H0.out).mono ?_
    rintro e u ⟨rfl, rfl⟩
    go_wp2_with fail
    refine (H1.out).mono ?_
    rintro e u ⟨rfl, rfl⟩
    clear H0 H1
    go_wp2
    go_ret
    exact ⟨rfl, rfl⟩
  · rw [if_neg h1] at hz
    by_cases h2 : y < x
    · rw [if_pos h2] at hz
      subst hz
      go_enter Try.func49, Try.ntmps49
      go_wp2_with fail
      refine (H0.out).mono ?_
      rintro e u ⟨rfl, rfl⟩
      go_wp2_with fail
      refine (H1.out).mono ?_
      rintro e u ⟨rfl, rfl⟩
      clear H0 H1
      go_wp2
      go_ret
      exact ⟨rfl, rfl⟩
    · rw [if_neg h2] at hz
      subst hz
      go_enter Try.func49, Try.ntmps49
      go_wp2_with fail
      refine (H0.out).mono ?_
      rintro e u ⟨rfl, rfl⟩
      go_wp2_with fail
      refine (H1.out).mono ?_
      rintro e u ⟨rfl, rfl⟩
      clear H0 H1
      go_wp2
      go_ret
      exact ⟨rfl, rfl⟩
set_option maxHeartbeats 2000000 in
theorem compare_any (v1 v2 : Value) (ps qs : List Int) (w : World) (h1 : Ris w v1 ps) (h2 : Ris w v2 qs) :
    Calls Try.prog 42 #[v1, v2] w fun e w' => e = .returned (.int .i64 (odr ps qs)) ∧ w = w' := by
  obtain ⟨a, c, rfl, hlc, hcm⟩ := h1.form
  obtain ⟨b, d, rfl, hld, hdm⟩ := h2.form
  have HA : Hid (Ris w (.slice a ps.length c) ps) := h1
  have HB : Hid (Ris w (.slice b qs.length d) qs) := h2
  unfold maxLen at hcm hdm
  clear h1 h2
  obtain ⟨p, hp⟩ : ∃ p, ps.length = p := ⟨_, rfl⟩
  obtain ⟨q, hq⟩ : ∃ q, qs.length = q := ⟨_, rfl⟩
  have HN : Hid (ps.length = p) := hp
  have HM : Hid (qs.length = q) := hq
  rw [hp] at HA hlc ⊢
  rw [hq] at HB hld ⊢
  obtain ⟨z, hz⟩ : ∃ z, odr ps qs = z := ⟨_, rfl⟩
  have HZ : Hid (odr (ps.drop 0) (qs.drop 0) = z) := hz
  rw [hz]
  clear hp hq hz
  go_enter Try.func42, Try.ntmps42
  go_wp2
  go_loopw [5, 6, 7, 8, 11] (fun _ _ _ _ i wr => ∃ k : Nat, k ≤ p ∧ i = .int .i64 (k : Int) ∧ w = wr ∧ Hid (odr (ps.drop k) (qs.drop k) = z)) (fun _ _ _ _ i _ => p - (intOf i).toNat)
  case atStart => exact ⟨0, Nat.zero_le _, rfl, rfl, HZ.out⟩
  case round =>
    obtain ⟨k, hk, rfl, rfl, HR⟩ := hrel
    by_cases hlt : ¬ k < p
    · have hE := HR.out
      rw [odr_left_end (by rw [HN.out]; exact hlt), HM.out] at hE
      have hkp : k = p := by omega
      subst hkp
      by_cases hq : k < q
      · rw [if_pos hq] at hE
        subst hE
        clear HA HB HN HM HR HZ
        go_wp2
        go_ret
        exact ⟨rfl, rfl⟩
      · rw [if_neg hq] at hE
        subst hE
        clear HA HB HN HM HR HZ
        go_wp2
        go_ret
        exact ⟨rfl, rfl⟩
    have hlt : k < p := by omega
    have hk1 : k < ps.length := by have := HN.out; omega
    obtain ⟨g, off, rfl, c0⟩ := HA.out.at k ps[k] (List.getElem?_eq_getElem hk1)
    have hx := List.getElem?_eq_getElem hk1
    generalize ps[k] = x at c0 hx
    by_cases hkq : ¬ k < q
    · have hE := HR.out
      rw [odr_right_end hk1 (by rw [HM.out]; exact hkq)] at hE
      subst hE
      clear HA HB HN HM HR HZ hx hk1
      go_wp2
      go_ret
      exact ⟨rfl, rfl⟩
    have hkq : k < q := by omega
    have hk2 : k < qs.length := by have := HM.out; omega
    obtain ⟨g', off', rfl, d0⟩ := HB.out.at k qs[k] (List.getElem?_eq_getElem hk2)
    have hy := List.getElem?_eq_getElem hk2
    generalize qs[k] = y at d0 hy
    have hE := HR.out
    rw [odr_drop_lt hx hy] at hE
    by_cases hxy : x < y
    · rw [if_pos hxy] at hE
      have hc : cmpI x y = -1 := if_pos hxy
      have HC : Hid (Calls Try.prog 49 #[.int .i64 x, .int .i64 y] w fun e w' => e = .returned (.int .i64 (-1)) ∧ w = w') := by have := cmp_any x y w; rw [hc] at this; exact this
      subst hE
      clear HA HB HN HM HR HZ hx hy hk1 hk2 hxy hc
      go_wp2_with fail
      refine (HC.out).mono ?_
      rintro e u ⟨rfl, rfl⟩
      clear HC
      go_wp2
      go_ret
      exact ⟨rfl, rfl⟩
    · rw [if_neg hxy] at hE
      by_cases hyx : y < x
      · rw [if_pos hyx] at hE
        have hc : cmpI x y = 1 := by unfold cmpI; rw [if_neg hxy, if_pos hyx]
        have HC : Hid (Calls Try.prog 49 #[.int .i64 x, .int .i64 y] w fun e w' => e = .returned (.int .i64 1) ∧ w = w') := by have := cmp_any x y w; rw [hc] at this; exact this
        subst hE
        clear HA HB HN HM HR HZ hx hy hk1 hk2 hxy hyx hc
        go_wp2_with fail
        refine (HC.out).mono ?_
        rintro e u ⟨rfl, rfl⟩
        clear HC
        go_wp2
        go_ret
        exact ⟨rfl, rfl⟩
      · rw [if_neg hyx] at hE
        have hc : cmpI x y = 0 := by unfold cmpI; rw [if_neg hxy, if_neg hyx]
        have HC : Hid (Calls Try.prog 49 #[.int .i64 x, .int .i64 y] w fun e w' => e = .returned (.int .i64 0) ∧ w = w') := by have := cmp_any x y w; rw [hc] at this; exact this
        have HQ : Hid (odr (ps.drop (k + 1)) (qs.drop (k + 1)) = z) := hE
        clear HA HB HN HM HR HZ hx hy hk1 hk2 hxy hyx hc hE
        go_wp2_with fail
        refine (HC.out).mono ?_
        rintro e u ⟨rfl, rfl⟩
        clear HC
        go_wp2
        go_roundw
        case rel => exact ⟨k + 1, by omega, by go_num, trivial, HQ.out⟩
        case measure => simp [intOf]; omega
theorem order_any (v1 v2 : Value) (ps qs : List Int) (w : World) (h1 : Ris w v1 ps) (h2 : Ris w v2 qs) :
    Calls Try.prog 32 #[v1, v2] w fun e w' => e = .returned (.int .i64 (odr ps qs)) ∧ w = w' := by
  have HC : Hid (Calls Try.prog 42 #[v1, v2] w fun e w' => e = .returned (.int .i64 (odr ps qs)) ∧ w = w') := compare_any v1 v2 ps qs w h1 h2
  obtain ⟨z, hz⟩ : ∃ z, odr ps qs = z := ⟨_, rfl⟩
  rw [hz] at HC ⊢
  clear h1 h2 hz
  go_enter Try.func32, Try.ntmps32
  go_wp2_with fail
  refine (HC.out).mono ?_
  rintro e u ⟨rfl, rfl⟩
  clear HC
  go_wp2
  go_ret
  exact ⟨rfl, rfl⟩
end Go.Proofs.Ytemlafdmeaobfab.route
