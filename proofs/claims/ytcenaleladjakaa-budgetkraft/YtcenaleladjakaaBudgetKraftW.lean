/- BudgetKraft: tasks have berths just if they ask for no more rooms than there are. -/
import Derived.Test.YtcenaleladjakaaBudT
namespace Go.Proofs.Ytcenaleladjakaa.budgetKraft
open Go.RowKit Go.Proofs.Ytcenaleladjakaa.budget
set_option linter.unusedVariables false
set_option linter.unusedSimpArgs false
set_option maxRecDepth 100000

set_option maxHeartbeats 8000000 in
theorem walk (v : Value) (P : List Int) (m : Int) (wm : (Lit.int .i64 m).wf = true) (w : World) (hp : Ris w v P) :
    Calls Try.prog 5 #[v, .int .i64 m] w fun e w' => e = .returned (.bool true) ∧ Below w.heap.size w w' := by
  clear wm
  have HP : Hid (Calls Try.prog 9 #[v, .int .i64 m] w fun e u => ∃ pv, e = .returned (.tuple #[pv, .int .i64 (plC P m)]) ∧ Tld w u pv (plR P m) ∧ Below w.heap.size w u) := plan_any v P m w hp
  have HL : Hid (∀ u, Calls Try.prog 17 #[] u fun e w' => e = .returned (.bool true) ∧ Below u.heap.size u w') := lives_any
  have HSh : Hid (okP P → P.length ≤ 64 → ∀ u, Below w.heap.size w u → Calls Try.prog 18 #[v] u fun e w' => e = .returned (.int .i64 (shareN P : Int)) ∧ u = w') := fun h1 h2 u hb => share_any v P u (hp.below hb) h1 h2
  rcases plan_cases P m with ⟨hr, hc⟩ | ⟨M, rfl, hM1, hM8, hl, hP, _, hq⟩
  · rw [hr] at HP
    obtain ⟨z, hz⟩ : ∃ z, plC P m = z := ⟨_, rfl⟩
    rw [hz] at HP hc
    rcases hc with rfl | rfl
    · clear hp HSh hr hz
      go_enter Try.func5, Try.ntmps5
      go_wp2_with fail
      refine (HP.out).mono ?_
      rintro e u ⟨pv, rfl, hpv, hb⟩
      have hpv : pv = .slice none 0 0 := hpv
      subst hpv
      have HB : Hid (Below w.heap.size w u) := hb
      clear HP hb
      go_wp2_with fail
      refine (HL.out u).mono ?_
      rintro e u2 ⟨rfl, hb⟩
      have HB2 : Hid (Below w.heap.size w u2) := bsq HB.out hb
      clear hb HB
      go_wp2_with fail
      refine (HL.out u2).mono ?_
      rintro e u3 ⟨rfl, hb⟩
      have HB3 : Hid (Below w.heap.size w u3) := bsq HB2.out hb
      clear hb HB2 HL
      go_wp2
      go_ret
      exact ⟨rfl, HB3.out⟩
    · clear hp HSh hr hz
      go_enter Try.func5, Try.ntmps5
      go_wp2_with fail
      refine (HP.out).mono ?_
      rintro e u ⟨pv, rfl, hpv, hb⟩
      have hpv : pv = .slice none 0 0 := hpv
      subst hpv
      have HB : Hid (Below w.heap.size w u) := hb
      clear HP hb
      go_wp2_with fail
      refine (HL.out u).mono ?_
      rintro e u2 ⟨rfl, hb⟩
      have HB2 : Hid (Below w.heap.size w u2) := bsq HB.out hb
      clear hb HB
      go_wp2_with fail
      refine (HL.out u2).mono ?_
      rintro e u3 ⟨rfl, hb⟩
      have HB3 : Hid (Below w.heap.size w u3) := bsq HB2.out hb
      clear hb HB2 HL
      go_wp2
      go_ret
      exact ⟨rfl, HB3.out⟩
  · have HSh2 : Hid (∀ u, Below w.heap.size w u → Calls Try.prog 18 #[v] u fun e w' => e = .returned (.int .i64 (shareN P : Int)) ∧ u = w') := HSh.out hP hl
    obtain ⟨sh, hsh⟩ : ∃ sh, shareN P = sh := ⟨_, rfl⟩
    rw [hsh] at HSh2 hq
    rcases hq with ⟨hr, hc, _, hk⟩ | ⟨B, hr, hc, _, hk⟩
    · rw [hr, hc] at HP
      have e1 : decide ((sh : Int) ≤ 32 * (M : Int)) = false := decide_eq_false (by omega)
      have e2 : ¬ (sh : Int) ≤ 32 * (M : Int) := by omega
      clear hp HSh hr hc hsh hP
      go_enter Try.func5, Try.ntmps5
      go_wp2_with fail
      refine (HP.out).mono ?_
      rintro e u ⟨pv, rfl, hpv, hb⟩
      have hpv : pv = .slice none 0 0 := hpv
      subst hpv
      have HB : Hid (Below w.heap.size w u) := hb
      clear HP hb
      go_wp2_with fail
      refine (HL.out u).mono ?_
      rintro e u2 ⟨rfl, hb⟩
      have HB2 : Hid (Below w.heap.size w u2) := bsq HB.out hb
      clear hb HB HL
      go_wp2_with fail
      refine (HSh2.out u2 HB2.out).mono ?_
      rintro e u3 ⟨rfl, rfl⟩
      clear HSh2
      go_wp2
      go_ret
      exact ⟨rfl, HB2.out⟩
    · rw [hr, hc] at HP
      have e1 : decide ((sh : Int) ≤ 32 * (M : Int)) = true := decide_eq_true (by omega)
      have e2 : (sh : Int) ≤ 32 * (M : Int) := by omega
      clear hp HSh hr hc hsh hP
      go_enter Try.func5, Try.ntmps5
      go_wp2_with fail
      refine (HP.out).mono ?_
      rintro e u ⟨pv, rfl, hpv, hb⟩
      have HB : Hid (Below w.heap.size w u) := hb
      clear HP hb hpv
      go_wp2_with fail
      refine (HL.out u).mono ?_
      rintro e u2 ⟨rfl, hb⟩
      have HB2 : Hid (Below w.heap.size w u2) := bsq HB.out hb
      clear hb HB HL
      go_wp2_with fail
      refine (HSh2.out u2 HB2.out).mono ?_
      rintro e u3 ⟨rfl, rfl⟩
      clear HSh2
      go_wp2
      go_ret
      exact ⟨rfl, HB2.out⟩
end Go.Proofs.Ytcenaleladjakaa.budgetKraft
