/- BudgetOther: whatever plan somebody else has for these tasks, if it is right there is one that is told. -/
import Derived.Test.YtcenaleladjakaaBudT
namespace Go.Proofs.Ytcenaleladjakaa.budgetOther
open Go.RowKit Go.Proofs.Ytcenaleladjakaa.budget
set_option linter.unusedVariables false
set_option linter.unusedSimpArgs false
set_option maxRecDepth 100000

theorem right_share {P : List Int} {T : List Bi} {m : Int} (h : chkP P T m = 0) : ∃ M : Nat, m = (M : Int) ∧ 1 ≤ M ∧ M ≤ 8 ∧ P.length ≤ 64 ∧ okP P ∧ shareN P ≤ 32 * M := by
  unfold chkP at h
  split at h
  · rename_i h0
    split at h
    · rename_i h1
      split at h
      · rename_i h2
        split at h
        · omega
        · rename_i h3
          obtain ⟨q1, q2, q3, q4⟩ := chk_ok h0
          obtain ⟨M, rfl⟩ := Int.eq_ofNat_of_zero_le (show 0 ≤ m by omega)
          refine ⟨M, rfl, by omega, by omega, q3, q4, ?_⟩
          have ha : Apart (ensI P T) := by
            have := (dcl_iff (ensI P T) [] List.Pairwise.nil).1 (by simpa using h3)
            simpa using this
          have hs := shr_le (ensI_ve q4 h2) ha
          have e : shr (ensI P T) = shareN P := by
            unfold shr ensI shareN
            rw [List.map_map]
            congr 1
            apply List.ext_getElem?
            intro j
            rw [List.getElem?_map, List.getElem?_map]
            by_cases hj : j < P.length
            · rw [zip_at (List.getElem?_eq_getElem hj) (List.getElem?_eq_getElem (show j < T.length by omega)), List.getElem?_range hj]
              simp [enI, pN, hj]
            · rw [List.getElem?_eq_none (by simp; omega), List.getElem?_eq_none (by simp; omega)]
              rfl
          rw [← e]
          exact hs
      · omega
    · omega
  · rename_i h0
    exact absurd h h0
set_option maxHeartbeats 8000000 in
theorem walk (v : Value) (P : List Int) (pv : Value) (T : List Bi) (m : Int) (wm : (Lit.int .i64 m).wf = true) (w : World) (hp : Ris w v P) (hq : Rbs w pv T) :
    Calls Try.prog 7 #[v, pv, .int .i64 m] w fun e w' => e = .returned (.bool true) ∧ Below w.heap.size w w' := by
  clear wm
  have HC : Hid (∀ u, Below w.heap.size w u → Calls Try.prog 14 #[v, pv, .int .i64 m] u fun e w' => e = .returned (.int .i64 (chkP P T m)) ∧ Below u.heap.size u w') := fun u hb => checkP_any v pv P T m u (hp.below hb) (hq.below hb)
  have HP : Hid (∀ u, Below w.heap.size w u → Calls Try.prog 9 #[v, .int .i64 m] u fun e u' => ∃ pv, e = .returned (.tuple #[pv, .int .i64 (plC P m)]) ∧ Tld u u' pv (plR P m) ∧ Below u.heap.size u u') := fun u hb => plan_any v P m u (hp.below hb)
  have HL : Hid (∀ u, Calls Try.prog 17 #[] u fun e w' => e = .returned (.bool true) ∧ Below u.heap.size u w') := lives_any
  have HSh : Hid (okP P → P.length ≤ 64 → ∀ u, Below w.heap.size w u → Calls Try.prog 18 #[v] u fun e w' => e = .returned (.int .i64 (shareN P : Int)) ∧ u = w') := fun h1 h2 u hb => share_any v P u (hp.below hb) h1 h2
  obtain ⟨z, hz⟩ : ∃ z, chkP P T m = z := ⟨_, rfl⟩
  rw [hz] at HC
  by_cases h0 : z = 0
  · subst h0
    obtain ⟨M, rfl, hM1, hM8, hl, hP, hk⟩ := right_share hz
    have hcz : plC P (M : Int) = 0 := by
      rcases plan_cases P (M : Int) with ⟨hr, hc⟩ | ⟨M', e, _, _, _, _, hck, hh⟩
      · have : chk P (M : Int) = 0 := by
          unfold chkP at hz
          split at hz
          · assumption
          · exact hz
        unfold plC at hc
        rw [if_pos this] at hc
        split at hc <;> omega
      · have e : M = M' := by omega
        subst e
        rcases hh with ⟨_, _, _, h⟩ | ⟨B, _, h, _⟩
        · omega
        · exact h
    rw [hcz] at HP
    have HSh2 : Hid (∀ u, Below w.heap.size w u → Calls Try.prog 18 #[v] u fun e w' => e = .returned (.int .i64 (shareN P : Int)) ∧ u = w') := HSh.out hP hl
    obtain ⟨sh, hsh⟩ : ∃ sh, shareN P = sh := ⟨_, rfl⟩
    rw [hsh] at HSh2 hk
    have e1 : decide ((sh : Int) ≤ 32 * (M : Int)) = true := decide_eq_true (by omega)
    have e2 : (sh : Int) ≤ 32 * (M : Int) := by omega
    clear hp hq HSh hsh hP hz hcz
    go_enter Try.func7, Try.ntmps7
    go_wp2_with fail
    refine (HL.out w).mono ?_
    rintro e u ⟨rfl, hb⟩
    have HB : Hid (Below w.heap.size w u) := hb
    clear hb HL
    go_wp2_with fail
    refine (HC.out u HB.out).mono ?_
    rintro e u2 ⟨rfl, hb⟩
    have HB2 : Hid (Below w.heap.size w u2) := bsq HB.out hb
    clear hb HB HC
    go_wp2_with fail
    refine (HP.out u2 HB2.out).mono ?_
    rintro e u3 ⟨p3, rfl, _, hb⟩
    have HB3 : Hid (Below w.heap.size w u3) := bsq HB2.out hb
    clear hb HB2 HP
    go_wp2_with fail
    refine (HSh2.out u3 HB3.out).mono ?_
    rintro e u4 ⟨rfl, rfl⟩
    clear HSh2
    go_wp2
    go_ret
    exact ⟨rfl, HB3.out⟩
  · have e0 : (z != 0) = true := by simpa using h0
    clear hp hq HSh hz HP h0
    go_enter Try.func7, Try.ntmps7
    go_wp2_with fail
    refine (HL.out w).mono ?_
    rintro e u ⟨rfl, hb⟩
    have HB : Hid (Below w.heap.size w u) := hb
    clear hb
    go_wp2_with fail
    refine (HC.out u HB.out).mono ?_
    rintro e u2 ⟨rfl, hb⟩
    have HB2 : Hid (Below w.heap.size w u2) := bsq HB.out hb
    clear hb HB HC
    go_wp2_with fail
    refine (HL.out u2).mono ?_
    rintro e u3 ⟨rfl, hb⟩
    have HB3 : Hid (Below w.heap.size w u3) := bsq HB2.out hb
    clear hb HB2 HL
    go_wp2
    go_ret
    exact ⟨rfl, HB3.out⟩
end Go.Proofs.Ytcenaleladjakaa.budgetOther
