/- BudgetPlans: whatever is handed in, Plan answers what the document says. -/
import Derived.Test.YtcenaleladjakaaBudRd
namespace Go.Proofs.Ytcenaleladjakaa.budgetPlans
open Go.RowKit Go.Proofs.Ytcenaleladjakaa.budget
set_option linter.unusedVariables false
set_option linter.unusedSimpArgs false
set_option maxRecDepth 100000

def tlL : Option (List Bt) → List Bi
  | none => []
  | some B => toI B
theorem tld_rbs {w u : World} {pv : Value} {r : Option (List Bt)} (h : Tld w u pv r) (hl : ∀ B, r = some B → B.length ≤ 64) : Rbs u pv (tlL r) := by
  cases r with
  | none =>
    have : pv = .slice none 0 0 := h
    subst this
    exact ⟨none, 0, rfl, Nat.le_refl _, Nat.zero_le _, fun q => (Nat.lt_irrefl 0 q).elim⟩
  | some B =>
    obtain ⟨g, rfl, h1, h2⟩ := h
    have := rbs_of (T := toI B) h1 (by rw [toI_len]; have := hl B rfl; unfold maxLen; omega)
    rw [toI_len] at this
    exact this
set_option maxHeartbeats 8000000 in
theorem walk (v : Value) (P : List Int) (m : Int) (wm : (Lit.int .i64 m).wf = true) (w : World) (hp : Ris w v P) :
    Calls Try.prog 3 #[v, .int .i64 m] w fun e w' => e = .returned (.bool true) ∧ Below w.heap.size w w' := by
  clear wm
  have hlen : ∀ B, plR P m = some B → B.length ≤ 64 := fun B hB => by
    rcases plan_cases P m with ⟨hr, _⟩ | ⟨M, rfl, _, _, hl, hP, _, hq⟩
    · rw [hr] at hB; exact absurd hB (by simp)
    · rcases hq with ⟨hr, _⟩ | ⟨B', hr, _, hpl, _⟩
      · rw [hr] at hB; exact absurd hB (by simp)
      · rw [hr] at hB
        injection hB with hB
        subst hB
        rw [(plan_ens hP hpl).1]
        exact hl
  have HP : Hid (Calls Try.prog 9 #[v, .int .i64 m] w fun e u => ∃ pv, e = .returned (.tuple #[pv, .int .i64 (plC P m)]) ∧ Tld w u pv (plR P m) ∧ Below w.heap.size w u) := plan_any v P m w hp
  have HR : Hid (∀ u, Below w.heap.size w u → Calls Try.prog 10 #[v, .int .i64 m] u fun e u' => ∃ pv, e = .returned (.tuple #[pv, .int .i64 (plC P m)]) ∧ Tld u u' pv (plR P m) ∧ Below u.heap.size u u') := fun u hb => planned_any v P m u (hp.below hb)
  have HE : Hid (∀ (x y : Value) (l : List Bi) (u : World), Rbs u x l → Rbs u y l → Calls Try.prog 11 #[x, y] u fun e w' => e = .returned (.bool true) ∧ Below u.heap.size u w') := fun x y l u h1 h2 => by
    have := equalB_any x y l l u h1 h2
    simpa using this
  obtain ⟨cc, hcc⟩ : ∃ cc, plC P m = cc := ⟨_, rfl⟩
  obtain ⟨r, hr⟩ : ∃ r, plR P m = r := ⟨_, rfl⟩
  rw [hcc, hr] at HP HR
  rw [hr] at hlen
  have HLn : Hid (∀ B, r = some B → B.length ≤ 64) := hlen
  have ec : (cc == cc) = true := by simp
  clear hp hcc hr hlen
  go_enter Try.func3, Try.ntmps3
  go_wp2_with fail
  refine (HP.out).mono ?_
  rintro e u ⟨pv, rfl, ht, hb⟩
  have HB : Hid (Below w.heap.size w u) := hb
  have HT : Hid (Rbs u pv (tlL r)) := tld_rbs ht HLn.out
  clear HP ht hb
  go_wp2_with fail
  refine (HR.out u HB.out).mono ?_
  rintro e u2 ⟨pv2, rfl, ht, hb⟩
  have HT2 : Hid (Rbs u2 pv (tlL r) ∧ Rbs u2 pv2 (tlL r)) := ⟨HT.out.below hb, tld_rbs ht HLn.out⟩
  have HB2 : Hid (Below w.heap.size w u2) := bsq HB.out hb
  clear HR ht hb HB HT HLn
  go_wp2_with fail
  refine (HE.out pv pv2 _ u2 HT2.out.1 HT2.out.2).mono ?_
  rintro e u3 ⟨rfl, hb⟩
  have HB3 : Hid (Below w.heap.size w u3) := bsq HB2.out hb
  clear HE hb HB2 HT2
  go_wp2
  go_ret
  exact ⟨rfl, HB3.out⟩
end Go.Proofs.Ytcenaleladjakaa.budgetPlans
