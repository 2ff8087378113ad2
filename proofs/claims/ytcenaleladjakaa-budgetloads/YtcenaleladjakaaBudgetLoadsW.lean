/- BudgetLoads: whatever is handed in, Check and Load answer what the document says. -/
import Derived.Test.YtcenaleladjakaaBudRb
namespace Go.Proofs.Ytcenaleladjakaa.budgetLoads
open Go.RowKit Go.Proofs.Ytcenaleladjakaa.budget
set_option linter.unusedVariables false
set_option linter.unusedSimpArgs false
set_option maxRecDepth 100000

set_option maxHeartbeats 8000000 in
theorem walk (v : Value) (P : List Int) (pv : Value) (T : List Bi) (m f : Int) (wm : (Lit.int .i64 m).wf = true) (wf : (Lit.int .i64 f).wf = true) (w : World) (hp : Ris w v P) (hq : Rbs w pv T) :
    Calls Try.prog 4 #[v, pv, .int .i64 m, .int .i64 f] w fun e w' => e = .returned (.bool true) ∧ Below w.heap.size w w' := by
  have hf : f ≤ 9223372036854775807 := by
    have h1 : IntKind.i64.min ≤ f ∧ f ≤ 9223372036854775807 := by simpa [Lit.wf] using wf
    exact h1.2
  clear wm wf
  have HL : Hid (Calls Try.prog 12 #[v, pv, .int .i64 m, .int .i64 f] w fun e u => ∃ tv, e = .returned (.tuple #[tv, .int .i64 (ldC P T m f)]) ∧ Iw u w.heap.size tv (ldV P T m f) ∧ Below w.heap.size w u) := load_any v pv P T m f w hp hq hf
  have HR : Hid (∀ u, Below w.heap.size w u → Calls Try.prog 13 #[v, pv, .int .i64 m, .int .i64 f] u fun e u' => ∃ tv, e = .returned (.tuple #[tv, .int .i64 (ldC P T m f)]) ∧ Iw u' u.heap.size tv (ldV P T m f) ∧ Below u.heap.size u u') := fun u hb => loaded_any v pv P T m f u (hp.below hb) (hq.below hb) hf
  have HC : Hid (∀ u, Below w.heap.size w u → Calls Try.prog 14 #[v, pv, .int .i64 m] u fun e w' => e = .returned (.int .i64 (chkP P T m)) ∧ Below u.heap.size u w') := fun u hb => checkP_any v pv P T m u (hp.below hb) (hq.below hb)
  have HPR : Hid (∀ u, Below w.heap.size w u → Calls Try.prog 15 #[v, pv, .int .i64 m] u fun e w' => e = .returned (.int .i64 (chkP P T m)) ∧ Below u.heap.size u w') := fun u hb => rightR_any v pv P T m u (hp.below hb) (hq.below hb)
  have HE : Hid (∀ (x y : Value) (l : List Int) (u : World), Ris u x l → Ris u y l → Calls Try.prog 16 #[x, y] u fun e w' => e = .returned (.bool true) ∧ Below u.heap.size u w') := fun x y l u h1 h2 => by
    have := equalI_any x y l l u h1 h2
    simpa using this
  obtain ⟨z, hz⟩ : ∃ z, chkP P T m = z := ⟨_, rfl⟩
  obtain ⟨cc, hcc⟩ : ∃ cc, ldC P T m f = cc := ⟨_, rfl⟩
  obtain ⟨l, hl⟩ : ∃ l, ldV P T m f = l := ⟨_, rfl⟩
  rw [hz] at HC HPR
  rw [hcc, hl] at HL HR
  have ez : (z == z) = true := by simp
  have ec : (cc == cc) = true := by simp
  clear hp hq hz hcc hl hf
  go_enter Try.func4, Try.ntmps4
  go_wp2_with fail
  refine (HL.out).mono ?_
  rintro e u ⟨tv, rfl, ht, hb⟩
  have HB : Hid (Below w.heap.size w u) := hb
  have HT : Hid (Iw u w.heap.size tv l) := ht
  clear HL ht hb
  go_wp2_with fail
  refine (HR.out u HB.out).mono ?_
  rintro e u2 ⟨tv2, rfl, ht, hb⟩
  have HT2 : Hid (Ris u2 tv l ∧ Ris u2 tv2 l) := ⟨HT.out.ris.below hb, ht.ris⟩
  have HB2 : Hid (Below w.heap.size w u2) := bsq HB.out hb
  clear HR ht hb HB HT
  go_wp2_with fail
  refine (HC.out u2 HB2.out).mono ?_
  rintro e u3 ⟨rfl, hb⟩
  have HT3 : Hid (Ris u3 tv l ∧ Ris u3 tv2 l) := ⟨HT2.out.1.below hb, HT2.out.2.below hb⟩
  have HB3 : Hid (Below w.heap.size w u3) := bsq HB2.out hb
  clear HC hb HB2 HT2
  go_wp2_with fail
  refine (HPR.out u3 HB3.out).mono ?_
  rintro e u4 ⟨rfl, hb⟩
  have HT4 : Hid (Ris u4 tv l ∧ Ris u4 tv2 l) := ⟨HT3.out.1.below hb, HT3.out.2.below hb⟩
  have HB4 : Hid (Below w.heap.size w u4) := bsq HB3.out hb
  clear HPR hb HB3 HT3
  go_wp2_with fail
  refine (HE.out tv tv2 l u4 HT4.out.1 HT4.out.2).mono ?_
  rintro e u5 ⟨rfl, hb⟩
  have HB5 : Hid (Below w.heap.size w u5) := bsq HB4.out hb
  clear HE hb HB4 HT4
  go_wp2
  go_ret
  exact ⟨rfl, HB5.out⟩
end Go.Proofs.Ytcenaleladjakaa.budgetLoads
