/- desc: devices: what isDevice and WriteDevice answer. -/
import Derived.Test.YtebaepkghbihkaaDescD
import Derived.Laws.StructEq
import Derived.Laws.BitsAllLaws
import Derived.Laws.BitsLemmas
import Derived.Deep.QuietTactic
import Derived.BigQuiet
namespace Go.Proofs.Ytebaepkghbihkaa.desc
open Go.RowKit Go.PlainAid Go.Proofs.Ytebaepkghbihkaa.lane
set_option linter.unusedVariables false

structure Dv where
  us : Int
  cl : Int
  su : Int
  pr : Int
  m0 : Int
  ve : Int
  pd : Int
  re : Int
  ma : Int
  nm : Int
  se : Int
  cf : Int
def noD : Dv := ⟨0, 0, 0, 0, 0, 0, 0, 0, 0, 0, 0, 0⟩
/-- a device's value, and its cells -/
abbrev dvV (d : Dv) : Value := .agg #[.int .i64 d.us, .int .i64 d.cl, .int .i64 d.su, .int .i64 d.pr, .int .i64 d.m0, .int .i64 d.ve, .int .i64 d.pd, .int .i64 d.re, .int .i64 d.ma, .int .i64 d.nm, .int .i64 d.se, .int .i64 d.cf]
abbrev dvO (d : Dv) : Obj := .cells #[.int .i64 d.us, .int .i64 d.cl, .int .i64 d.su, .int .i64 d.pr, .int .i64 d.m0, .int .i64 d.ve, .int .i64 d.pd, .int .i64 d.re, .int .i64 d.ma, .int .i64 d.nm, .int .i64 d.se, .int .i64 d.cf] 23
/-- a device's cells at block B -/
structure DvC (w : World) (B : Nat) (d : Dv) : Prop where
  size : B < w.heap.size
  c0 : w.cell? ⟨B, 0, none⟩ = some (.int .i64 d.us)
  c1 : w.cell? ⟨B, 1, none⟩ = some (.int .i64 d.cl)
  c2 : w.cell? ⟨B, 2, none⟩ = some (.int .i64 d.su)
  c3 : w.cell? ⟨B, 3, none⟩ = some (.int .i64 d.pr)
  c4 : w.cell? ⟨B, 4, none⟩ = some (.int .i64 d.m0)
  c5 : w.cell? ⟨B, 5, none⟩ = some (.int .i64 d.ve)
  c6 : w.cell? ⟨B, 6, none⟩ = some (.int .i64 d.pd)
  c7 : w.cell? ⟨B, 7, none⟩ = some (.int .i64 d.re)
  c8 : w.cell? ⟨B, 8, none⟩ = some (.int .i64 d.ma)
  c9 : w.cell? ⟨B, 9, none⟩ = some (.int .i64 d.nm)
  c10 : w.cell? ⟨B, 10, none⟩ = some (.int .i64 d.se)
  c11 : w.cell? ⟨B, 11, none⟩ = some (.int .i64 d.cf)
theorem DvC.new (w : World) (d : Dv) : DvC (w.alloc (dvO d)) w.heap.size d := by
  refine ⟨by simp, ?_, ?_, ?_, ?_, ?_, ?_, ?_, ?_, ?_, ?_, ?_, ?_⟩ <;> (rw [World.cell?_alloc_new]; rfl)
theorem DvC.below {w u : World} {B C : Nat} {d : Dv} (h : DvC w B d) (hb : Below C w u) (hC : B < C) : DvC u B d :=
  ⟨Nat.lt_of_lt_of_le h.size hb.size, (hb.cell hC).trans h.c0, (hb.cell hC).trans h.c1, (hb.cell hC).trans h.c2, (hb.cell hC).trans h.c3, (hb.cell hC).trans h.c4, (hb.cell hC).trans h.c5, (hb.cell hC).trans h.c6, (hb.cell hC).trans h.c7, (hb.cell hC).trans h.c8, (hb.cell hC).trans h.c9, (hb.cell hC).trans h.c10, (hb.cell hC).trans h.c11⟩
def m0B (x : Int) : Bool := x == 8 || (x == 16 || (x == 32 || x == 64))
def devOk (d : Dv) : Bool := m0B d.m0 && (allB 255 [d.cl, d.su, d.pr, d.ma, d.nm, d.se, d.cf] && (allB 65535 [d.us, d.ve, d.pd, d.re] && d.cf != 0))
def devL (d : Dv) : List Int := [18, 1] ++ wrd d.us ++ [d.cl, d.su, d.pr, d.m0] ++ wrd d.ve ++ wrd d.pd ++ wrd d.re ++ [d.ma, d.nm, d.se, d.cf]
theorem m0B_cases {x : Int} (h : m0B x = true) : x = 8 ∨ x = 16 ∨ x = 32 ∨ x = 64 := by simpa [m0B] using h
theorem devOk_iff (d : Dv) : devOk d = true ↔ (d.m0 = 8 ∨ d.m0 = 16 ∨ d.m0 = 32 ∨ d.m0 = 64) ∧ ((0 ≤ d.cl ∧ d.cl ≤ 255) ∧ (0 ≤ d.su ∧ d.su ≤ 255) ∧ (0 ≤ d.pr ∧ d.pr ≤ 255) ∧ (0 ≤ d.ma ∧ d.ma ≤ 255) ∧ (0 ≤ d.nm ∧ d.nm ≤ 255) ∧ (0 ≤ d.se ∧ d.se ≤ 255) ∧ (0 ≤ d.cf ∧ d.cf ≤ 255)) ∧
    ((0 ≤ d.us ∧ d.us ≤ 65535) ∧ (0 ≤ d.ve ∧ d.ve ≤ 65535) ∧ (0 ≤ d.pd ∧ d.pd ≤ 65535) ∧ (0 ≤ d.re ∧ d.re ≤ 65535)) ∧ d.cf ≠ 0 := by
  simp [devOk, m0B, allB, inB, and_assoc]

/-- the device lies in a block of its own, in a world of one name -/
theorem DvC.named (w : World) (d : Dv) : ∃ w0, w.alloc (dvO d) = w0 ∧ DvC w0 w.heap.size d ∧ Below w.heap.size w w0 ∧ w0.heap.size = w.heap.size + 1 := ⟨_, rfl, DvC.new w d, balloc _ _, by simp⟩
set_option maxHeartbeats 1000000 in
theorem isDevice_any (d : Dv) (w : World) : Calls Try.prog 50 #[dvV d] w fun e w' => e = .returned (.bool (devOk d)) ∧ Below w.heap.size w w' := by
  obtain ⟨w0, hw0, hdc, hb0, hz0⟩ := DvC.named w d
  have HB0 : Hid (Below w.heap.size w w0) := hb0
  clear hz0
  have hdc2 := hdc.below (balloc w0 (.cells #[.int .i64 d.cl, .int .i64 d.su, .int .i64 d.pr, .int .i64 d.ma, .int .i64 d.nm, .int .i64 d.se, .int .i64 d.cf] 3)) hdc.size
  unfold devOk
  by_cases hm : m0B d.m0 = true
  · rw [hm, Bool.true_and]
    have HA : Hid (Calls Try.prog 76 #[.int .i64 255, .slice (some ⟨w0.heap.size, 0, none⟩) 7 7] (w0.alloc (.cells #[.int .i64 d.cl, .int .i64 d.su, .int .i64 d.pr, .int .i64 d.ma, .int .i64 d.nm, .int .i64 d.se, .int .i64 d.cf] 3)) fun e w' => e = .returned (.bool (allB 255 [d.cl, d.su, d.pr, d.ma, d.nm, d.se, d.cf])) ∧ (w0.alloc (.cells #[.int .i64 d.cl, .int .i64 d.su, .int .i64 d.pr, .int .i64 d.ma, .int .i64 d.nm, .int .i64 d.se, .int .i64 d.cf] 3)) = w') :=
      allWithin_any 255 _ [d.cl, d.su, d.pr, d.ma, d.nm, d.se, d.cf] _ (Rig.new w0 [d.cl, d.su, d.pr, d.ma, d.nm, d.se, d.cf] 3 (by simp [maxLen]))
    obtain ⟨w1, hw1⟩ : ∃ w1, w0.alloc (.cells #[.int .i64 d.cl, .int .i64 d.su, .int .i64 d.pr, .int .i64 d.ma, .int .i64 d.nm, .int .i64 d.se, .int .i64 d.cf] 3) = w1 := ⟨_, rfl⟩
    rw [hw1] at HA hdc2
    have HB1 : Hid (Below w.heap.size w w1) := by rw [← hw1]; exact bsq HB0.out (balloc _ _)
    have HB : Hid (Calls Try.prog 76 #[.int .i64 65535, .slice (some ⟨w1.heap.size, 0, none⟩) 4 4] (w1.alloc (.cells #[.int .i64 d.us, .int .i64 d.ve, .int .i64 d.pd, .int .i64 d.re] 3)) fun e w' => e = .returned (.bool (allB 65535 [d.us, d.ve, d.pd, d.re])) ∧ (w1.alloc (.cells #[.int .i64 d.us, .int .i64 d.ve, .int .i64 d.pd, .int .i64 d.re] 3)) = w') :=
      allWithin_any 65535 _ [d.us, d.ve, d.pd, d.re] _ (Rig.new w1 [d.us, d.ve, d.pd, d.re] 3 (by simp [maxLen]))
    generalize allB 255 [d.cl, d.su, d.pr, d.ma, d.nm, d.se, d.cf] = x at *
    generalize allB 65535 [d.us, d.ve, d.pd, d.re] = y at *
    have hm := m0B_cases hm
    have hdc3 := hdc2.below (balloc w1 (.cells #[.int .i64 d.us, .int .i64 d.ve, .int .i64 d.pd, .int .i64 d.re] 3)) hdc2.size
    obtain ⟨w2, hw2⟩ : ∃ w2, w1.alloc (.cells #[.int .i64 d.us, .int .i64 d.ve, .int .i64 d.pd, .int .i64 d.re] 3) = w2 := ⟨_, rfl⟩
    rw [hw2] at HB hdc3
    have HB2 : Hid (Below w.heap.size w w2) := by rw [← hw2]; exact bsq HB1.out (balloc _ _)
    obtain ⟨us, cl, su, pr, m0, ve, pd, re, ma, nm, se, cf⟩ := d
    simp only at *
    obtain ⟨_, c0, c1, c2, c3, c4, c5, c6, c7, c8, c9, c10, c11⟩ := hdc
    obtain ⟨_, d0, d1, d2, d3, d4, d5, d6, d7, d8, d9, d10, d11⟩ := hdc2
    have f11 := hdc3.c11
    clear hdc3 hb0
    cases x
    · rw [Bool.false_and]
      clear HB hw2 HB2 d0 d1 d2 d3 d4 d5 d6 d7 d8 d9 d10 d11 f11
      rcases hm with rfl | rfl | rfl | rfl
      all_goals
        go_enter Try.func50, Try.ntmps50
        go_wp2_with fail
        refine HA.out.mono ?_
        rintro e wa ⟨rfl, rfl⟩
        go_wp2
        go_ret
        exact ⟨rfl, HB1.out⟩
    · rw [Bool.true_and]
      cases y
      · rw [Bool.false_and]
        rcases hm with rfl | rfl | rfl | rfl
        all_goals
          go_enter Try.func50, Try.ntmps50
          go_wp2_with fail
          refine HA.out.mono ?_
          rintro e wa ⟨rfl, rfl⟩
          go_wp2_with fail
          refine HB.out.mono ?_
          rintro e wa ⟨rfl, rfl⟩
          go_wp2
          go_ret
          exact ⟨rfl, HB2.out⟩
      · rw [Bool.true_and]
        rcases hm with rfl | rfl | rfl | rfl
        all_goals
          go_enter Try.func50, Try.ntmps50
          go_wp2_with fail
          refine HA.out.mono ?_
          rintro e wa ⟨rfl, rfl⟩
          go_wp2_with fail
          refine HB.out.mono ?_
          rintro e wa ⟨rfl, rfl⟩
          go_wp2
          go_ret
          exact ⟨rfl, HB2.out⟩
  · have hm2 : m0B d.m0 = false := by simpa using hm
    rw [hm2, Bool.false_and]
    clear hm hdc2
    unfold m0B at hm2
    obtain ⟨us, cl, su, pr, m0, ve, pd, re, ma, nm, se, cf⟩ := d
    simp only [Bool.or_eq_false_iff] at hm2
    obtain ⟨e1, e2, e3, e4⟩ := hm2
    try simp only at *
    obtain ⟨_, c0, c1, c2, c3, c4, c5, c6, c7, c8, c9, c10, c11⟩ := hdc
    go_enter Try.func50, Try.ntmps50
    go_wp2
    go_ret
    exact ⟨rfl, HB0.out⟩
end Go.Proofs.Ytebaepkghbihkaa.desc
