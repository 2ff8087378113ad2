/- route: what plugref's Before answers. -/
import Derived.Test.YtemlafdmeaobfabRouA
import Derived.Deep.RegionWith
namespace Go.Proofs.Ytemlafdmeaobfab.route
open Go Go.RowKit
set_option linter.unusedVariables false
set_option linter.unusedSimpArgs false
set_option maxRecDepth 100000

theorem Ris.tail {w : World} {a : Option Addr} {n c : Nat} {x : Int} {T : List Int} (h : Ris w (.slice a n c) (x :: T)) :
    ∃ a1, (∀ W : World, (Instr.slice 23 (.slice a n c) (some (.int .i64 1)) none none).run Try.prog W = .ok (.slice a1 T.length (c - 1)) W) ∧ Ris w (.slice a1 T.length (c - 1)) T := by
  obtain ⟨a', c', hv, h1, h2, h4⟩ := h
  injection hv with e1 e2 e3
  subst e1 e2 e3
  rw [List.length_cons] at h1
  refine ⟨if c = 1 then a else a.map (·.add 1), fun W => ?_, if c = 1 then a else a.map (·.add 1), c - 1, rfl, by omega, by omega, fun hn => ?_⟩
  · have := run_slice_l (P := Try.prog) (w := W) 23 a (x :: T).length c Try.underlying23 .i64 (1 : Int) (by omega) (by rw [List.length_cons]; omega)
    rw [this]
    simp [go_sem, sliced]
  · obtain ⟨g, off, rfl, hg, hc⟩ := h4 (by simp)
    refine ⟨g, off + 1, by rw [if_neg (by omega)]; simp [Addr.add_lit], hg, fun j y hy => ?_⟩
    rw [show off + 1 + j = off + (j + 1) by omega]
    exact hc (j + 1) y (by simpa using hy)
def bef (a b : List Int) : Bool := decide (odr a b < 0)
theorem bef_nil (a : List Int) : bef a [] = false := by cases a <;> rfl
theorem bef_first (y : Int) (b : List Int) : bef [] (y :: b) = true := rfl
theorem bef_lt {x y : Int} (h : x < y) (a b : List Int) : bef (x :: a) (y :: b) = true := by simp [bef, odr, h]
theorem bef_gt {x y : Int} (h : y < x) (a b : List Int) : bef (x :: a) (y :: b) = false := by simp [bef, odr, h, show ¬ x < y by omega]
theorem bef_eq (x : Int) (a b : List Int) : bef (x :: a) (x :: b) = bef a b := by
  have e : odr (x :: a) (x :: b) = odr a b := by
    show (if x < x then _ else if x < x then _ else odr a b) = _
    rw [if_neg (by omega), if_neg (by omega)]
  unfold bef
  rw [e]
theorem drewN_drewN (w : World) (m k : Nat) : (w.drewN m).drewN k = w.drewN (m + k) := by simp [World.drewN, Nat.add_assoc]
set_option maxHeartbeats 4000000 in
theorem before_any : ∀ (ps qs : List Int) (v1 v2 : Value) (w : World) (h1 : Ris w v1 ps) (h2 : Ris w v2 qs),
    Calls Try.prog 28 #[v1, v2] w fun e w' => e = .returned (.bool (bef ps qs)) ∧ ∃ m, w' = w.drewN m
  | ps, [], v1, v2, w, h1, h2 => by
    obtain ⟨a, c, rfl, hlc, hcm⟩ := h1.form
    obtain ⟨b, d, rfl, hld, hdm⟩ := h2.form
    rw [bef_nil]
    show Calls _ _ #[.slice a ps.length c, .slice b 0 d] w fun e w' => e = .returned (.bool false) ∧ ∃ m, w' = w.drewN m
    generalize ps.length = n
    clear h1 h2
    go_enter Try.func28, Try.ntmps28
    go_wp2
    go_ret
    exact ⟨rfl, 0, rfl⟩
  | [], y :: qs, v1, v2, w, h1, h2 => by
    obtain ⟨a, c, rfl, hlc, hcm⟩ := h1.form
    obtain ⟨b, d, rfl, hld, hdm⟩ := h2.form
    rw [bef_first]
    obtain ⟨n, hn⟩ : ∃ n, (y :: qs).length = n := ⟨_, rfl⟩
    have hn0 : ((n : Int) == 0) = false := by rw [beq_eq_false_iff_ne, ← hn]; simp; omega
    show Calls _ _ #[.slice a 0 c, .slice b (y :: qs).length d] w fun e w' => e = .returned (.bool true) ∧ ∃ m, w' = w.drewN m
    rw [hn]
    clear h1 h2 hn hlc hld
    go_enter Try.func28, Try.ntmps28
    go_wp2
    go_quiet (fail)
    go_wp2
    go_ret
    exact ⟨rfl, _, rfl⟩
  | x :: ps, y :: qs, v1, v2, w, h1, h2 => by
    obtain ⟨a, c, rfl, hlc, hcm⟩ := h1.form
    obtain ⟨b, d, rfl, hld, hdm⟩ := h2.form
    obtain ⟨a1, s1, r1⟩ := h1.tail
    obtain ⟨b1, s2, r2⟩ := h2.tail
    obtain ⟨g, off, rfl, c0⟩ := h1.at 0 x rfl
    obtain ⟨g', off', rfl, d0⟩ := h2.at 0 y rfl
    rw [Nat.add_zero] at c0 d0
    have HIH : Hid (∀ u, (∃ j, u = w.drewN j) → Calls Try.prog 28 #[.slice a1 ps.length (c - 1), .slice b1 qs.length (d - 1)] u fun e w' => e = .returned (.bool (bef ps qs)) ∧ ∃ m, w' = u.drewN m) := fun u hu => by
      obtain ⟨j, rfl⟩ := hu
      have hd : Below w.heap.size w (w.drewN j) := below_drewN (Below.refl _ _) _
      exact before_any ps qs _ _ _ (r1.below hd) (r2.below hd)
    obtain ⟨n, hn⟩ : ∃ n, (x :: ps).length = n := ⟨_, rfl⟩
    obtain ⟨k, hk⟩ : ∃ k, (y :: qs).length = k := ⟨_, rfl⟩
    have hn0 : ((n : Int) == 0) = false := by rw [beq_eq_false_iff_ne, ← hn]; simp; omega
    have hk0 : ((k : Int) == 0) = false := by rw [beq_eq_false_iff_ne, ← hk]; simp; omega
    have hn1 : 0 < n := by rw [← hn]; simp
    have hk1 : 0 < k := by rw [← hk]; simp
    rw [hn] at s1 hlc ⊢
    rw [hk] at s2 hld ⊢
    generalize ps.length = p1 at s1 HIH
    generalize qs.length = q1 at s2 HIH
    obtain ⟨c1, hc1⟩ : ∃ c1, c - 1 = c1 := ⟨_, rfl⟩
    obtain ⟨d1, hd1⟩ : ∃ d1, d - 1 = d1 := ⟨_, rfl⟩
    rw [hc1] at s1 HIH
    rw [hd1] at s2 HIH
    clear h1 h2 r1 r2 hn hk hc1 hd1
    by_cases hlt : x < y
    · rw [bef_lt hlt]
      have hd : decide (x < y) = true := decide_eq_true hlt
      clear HIH s1 s2 hlt
      go_enter Try.func28, Try.ntmps28
      go_wp2
      go_quiet (fail)
      go_wp2
      go_ret
      exact ⟨rfl, _, rfl⟩
    · have hd : decide (x < y) = false := decide_eq_false hlt
      by_cases hxy : x = y
      · subst hxy
        rw [bef_eq]
        have he : (x == x) = true := by simp
        generalize bef ps qs = t at HIH
        clear hlt
        go_enter Try.func28, Try.ntmps28
        go_wp2
        go_quiet (fail)
        go_wp2
        go_region_with (go_at_call 28; refine (HIH.out _ ⟨_, by first | exact drewN_drewN w _ 1 | rfl⟩).mono ?_; rintro e u ⟨rfl, j, rfl⟩)
        all_goals go_wp2
        all_goals go_ret
        all_goals exact ⟨rfl, _, rfl⟩
      · rw [bef_gt (by omega)]
        have he : (x == y) = false := by simpa using hxy
        clear HIH s1 s2 hlt hxy
        go_enter Try.func28, Try.ntmps28
        go_wp2
        go_quiet (fail)
        go_wp2
        go_quiet (fail)
        go_wp2
        go_ret
        exact ⟨rfl, _, drewN_drewN _ _ _⟩
end Go.Proofs.Ytemlafdmeaobfab.route
