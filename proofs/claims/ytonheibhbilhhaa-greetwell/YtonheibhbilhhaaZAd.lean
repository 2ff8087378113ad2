/- desc: devices: what isDevice and WriteDevice answer. -/
import Derived.Test.YtonheibhbilhhaaZAc
import Derived.Laws.StructEq
import Derived.Laws.BitsAllLaws
import Derived.Laws.BitsLemmas
import Derived.Deep.QuietTactic
import Derived.BigQuiet
namespace Go.Proofs.Ytonheibhbilhhaa.desc
open Go.RowKit Go.PlainAid Go.Proofs.Ytonheibhbilhhaa.lane
set_option linter.unusedVariables false

structure Dv where
  us : Int
  cl : Int
  su : Int
  pr : Int
  m0 : Int
  ve : Int
  pd : Int
  re : Int
  ma : Int
  nm : Int
  se : Int
  cf : Int
def noD : Dv := ⟨0, 0, 0, 0, 0, 0, 0, 0, 0, 0, 0, 0⟩
/-- a device's value, and its cells -/
abbrev dvV (d : Dv) : Value := .agg #[.int .i64 d.us, .int .i64 d.cl, .int .i64 d.su, .int .i64 d.pr, .int .i64 d.m0, .int .i64 d.ve, .int .i64 d.pd, .int .i64 d.re, .int .i64 d.ma, .int .i64 d.nm, .int .i64 d.se, .int .i64 d.cf]
abbrev dvO (d : Dv) : Obj := .cells #[.int .i64 d.us, .int .i64 d.cl, .int .i64 d.su, .int .i64 d.pr, .int .i64 d.m0, .int .i64 d.ve, .int .i64 d.pd, .int .i64 d.re, .int .i64 d.ma, .int .i64 d.nm, .int .i64 d.se, .int .i64 d.cf] 23
/-- a device's cells at block B -/
structure DvC (w : World) (B : Nat) (d : Dv) : Prop where
  size : B < w.heap.size
  c0 : w.cell? ⟨B, 0, none⟩ = some (.int .i64 d.us)
  c1 : w.cell? ⟨B, 1, none⟩ = some (.int .i64 d.cl)
  c2 : w.cell? ⟨B, 2, none⟩ = some (.int .i64 d.su)
  c3 : w.cell? ⟨B, 3, none⟩ = some (.int .i64 d.pr)
  c4 : w.cell? ⟨B, 4, none⟩ = some (.int .i64 d.m0)
  c5 : w.cell? ⟨B, 5, none⟩ = some (.int .i64 d.ve)
  c6 : w.cell? ⟨B, 6, none⟩ = some (.int .i64 d.pd)
  c7 : w.cell? ⟨B, 7, none⟩ = some (.int .i64 d.re)
  c8 : w.cell? ⟨B, 8, none⟩ = some (.int .i64 d.ma)
  c9 : w.cell? ⟨B, 9, none⟩ = some (.int .i64 d.nm)
  c10 : w.cell? ⟨B, 10, none⟩ = some (.int .i64 d.se)
  c11 : w.cell? ⟨B, 11, none⟩ = some (.int .i64 d.cf)
theorem DvC.new (w : World) (d : Dv) : DvC (w.alloc (dvO d)) w.heap.size d := by
  refine ⟨by simp, ?_, ?_, ?_, ?_, ?_, ?_, ?_, ?_, ?_, ?_, ?_, ?_⟩ <;> (rw [World.cell?_alloc_new]; rfl)
theorem DvC.below {w u : World} {B C : Nat} {d : Dv} (h : DvC w B d) (hb : Below C w u) (hC : B < C) : DvC u B d :=
  ⟨Nat.lt_of_lt_of_le h.size hb.size, (hb.cell hC).trans h.c0, (hb.cell hC).trans h.c1, (hb.cell hC).trans h.c2, (hb.cell hC).trans h.c3, (hb.cell hC).trans h.c4, (hb.cell hC).trans h.c5, (hb.cell hC).trans h.c6, (hb.cell hC).trans h.c7, (hb.cell hC).trans h.c8, (hb.cell hC).trans h.c9, (hb.cell hC).trans h.c10, (hb.cell hC).trans h.c11⟩
def m0B (x : Int) : Bool := x == 8 || (x == 16 || (x == 32 || x == 64))
def devOk (d : Dv) : Bool := m0B d.m0 && (allB 255 [d.cl, d.su, d.pr, d.ma, d.nm, d.se, d.cf] && (allB 65535 [d.us, d.ve, d.pd, d.re] && d.cf != 0))
def devL (d : Dv) : List Int := [18, 1] ++ wrd d.us ++ [d.cl, d.su, d.pr, d.m0] ++ wrd d.ve ++ wrd d.pd ++ wrd d.re ++ [d.ma, d.nm, d.se, d.cf]
theorem m0B_cases {x : Int} (h : m0B x = true) : x = 8 ∨ x = 16 ∨ x = 32 ∨ x = 64 := by simpa [m0B] using h
theorem devOk_iff (d : Dv) : devOk d = true ↔ (d.m0 = 8 ∨ d.m0 = 16 ∨ d.m0 = 32 ∨ d.m0 = 64) ∧ ((0 ≤ d.cl ∧ d.cl ≤ 255) ∧ (0 ≤ d.su ∧ d.su ≤ 255) ∧ (0 ≤ d.pr ∧ d.pr ≤ 255) ∧ (0 ≤ d.ma ∧ d.ma ≤ 255) ∧ (0 ≤ d.nm ∧ d.nm ≤ 255) ∧ (0 ≤ d.se ∧ d.se ≤ 255) ∧ (0 ≤ d.cf ∧ d.cf ≤ 255)) ∧
    ((0 ≤ d.us ∧ d.us ≤ 65535) ∧ (0 ≤ d.ve ∧ d.ve ≤ 65535) ∧ (0 ≤ d.pd ∧ d.pd ≤ 65535) ∧ (0 ≤ d.re ∧ d.re ≤ 65535)) ∧ d.cf ≠ 0 := by
  simp [devOk, m0B, allB, inB, and_assoc]

/-- the device lies in a block of its own, in a world of one name -/
theorem DvC.named (w : World) (d : Dv) : ∃ w0, w.alloc (dvO d) = w0 ∧ DvC w0 w.heap.size d ∧ Below w.heap.size w w0 ∧ w0.heap.size = w.heap.size + 1 := ⟨_, rfl, DvC.new w d, balloc _ _, by simp⟩
set_option maxHeartbeats 1000000 in
theorem isDevice_any (d : Dv) (w : World) : Calls Try.prog 33 #[dvV d] w fun e w' => e = .returned (.bool (devOk d)) ∧ Below w.heap.size w w' := by
  obtain ⟨w0, hw0, hdc, hb0, hz0⟩ := DvC.named w d
  have HB0 : Hid (Below w.heap.size w w0) := hb0
  clear hz0
  have hdc2 := hdc.below (balloc w0 (.cells #[.int .i64 d.cl, .int .i64 d.su, .int .i64 d.pr, .int .i64 d.ma, .int .i64 d.nm, .int .i64 d.se, .int .i64 d.cf] 3)) hdc.size
  unfold devOk
  by_cases hm : m0B d.m0 = true
  · rw [hm, Bool.true_and]
    have HA : Hid (Calls Try.prog 63 #[.int .i64 255, .slice (some ⟨w0.heap.size, 0, none⟩) 7 7] (w0.alloc (.cells #[.int .i64 d.cl, .int .i64 d.su, .int .i64 d.pr, .int .i64 d.ma, .int .i64 d.nm, .int .i64 d.se, .int .i64 d.cf] 3)) fun e w' => e = .returned (.bool (allB 255 [d.cl, d.su, d.pr, d.ma, d.nm, d.se, d.cf])) ∧ (w0.alloc (.cells #[.int .i64 d.cl, .int .i64 d.su, .int .i64 d.pr, .int .i64 d.ma, .int .i64 d.nm, .int .i64 d.se, .int .i64 d.cf] 3)) = w') :=
      allWithin_any 255 _ [d.cl, d.su, d.pr, d.ma, d.nm, d.se, d.cf] _ (Rig.new w0 [d.cl, d.su, d.pr, d.ma, d.nm, d.se, d.cf] 3 (by simp [maxLen]))
    obtain ⟨w1, hw1⟩ : ∃ w1, w0.alloc (.cells #[.int .i64 d.cl, .int .i64 d.su, .int .i64 d.pr, .int .i64 d.ma, .int .i64 d.nm, .int .i64 d.se, .int .i64 d.cf] 3) = w1 := ⟨_, rfl⟩
    rw [hw1] at HA hdc2
    have HB1 : Hid (Below w.heap.size w w1) := by rw [← hw1]; exact bsq HB0.out (balloc _ _)
    have HB : Hid (Calls Try.prog 63 #[.int .i64 65535, .slice (some ⟨w1.heap.size, 0, none⟩) 4 4] (w1.alloc (.cells #[.int .i64 d.us, .int .i64 d.ve, .int .i64 d.pd, .int .i64 d.re] 3)) fun e w' => e = .returned (.bool (allB 65535 [d.us, d.ve, d.pd, d.re])) ∧ (w1.alloc (.cells #[.int .i64 d.us, .int .i64 d.ve, .int .i64 d.pd, .int .i64 d.re] 3)) = w') :=
      allWithin_any 65535 _ [d.us, d.ve, d.pd, d.re] _ (Rig.new w1 [d.us, d.ve, d.pd, d.re] 3 (by simp [maxLen]))
    generalize allB 255 [d.cl, d.su, d.pr, d.ma, d.nm, d.se, d.cf] = x at *
    generalize allB 65535 [d.us, d.ve, d.pd, d.re] = y at *
    have hm := m0B_cases hm
    have hdc3 := hdc2.below (balloc w1 (.cells #[.int .i64 d.us, .int .i64 d.ve, .int .i64 d.pd, .int .i64 d.re] 3)) hdc2.size
    obtain ⟨w2, hw2⟩ : ∃ w2, w1.alloc (.cells #[.int .i64 d.us, .int .i64 d.ve, .int .i64 d.pd, .int .i64 d.re] 3) = w2 := ⟨_, rfl⟩
    rw [hw2] at HB hdc3
    have HB2 : Hid (Below w.heap.size w w2) := by rw [← hw2]; exact bsq HB1.out (balloc _ _)
    obtain ⟨us, cl, su, pr, m0, ve, pd, re, ma, nm, se, cf⟩ := d
    simp only at *
    obtain ⟨_, c0, c1, c2, c3, c4, c5, c6, c7, c8, c9, c10, c11⟩ := hdc
    obtain ⟨_, d0, d1, d2, d3, d4, d5, d6, d7, d8, d9, d10, d11⟩ := hdc2
    have f11 := hdc3.c11
    clear hdc3 hb0
    cases x
    · rw [Bool.false_and]
      clear HB hw2 HB2 d0 d1 d2 d3 d4 d5 d6 d7 d8 d9 d10 d11 f11
      rcases hm with rfl | rfl | rfl | rfl
      all_goals
        go_enter Try.func33, Try.ntmps33
        go_wp2_with fail
        refine HA.out.mono ?_
        rintro e wa ⟨rfl, rfl⟩
        go_wp2
        go_ret
        exact ⟨rfl, HB1.out⟩
    · rw [Bool.true_and]
      cases y
      · rw [Bool.false_and]
        rcases hm with rfl | rfl | rfl | rfl
        all_goals
          go_enter Try.func33, Try.ntmps33
          go_wp2_with fail
          refine HA.out.mono ?_
          rintro e wa ⟨rfl, rfl⟩
          go_wp2_with fail
          refine HB.out.mono ?_
          rintro e wa ⟨rfl, rfl⟩
          go_wp2
          go_ret
          exact ⟨rfl, HB2.out⟩
      · rw [Bool.true_and]
        rcases hm with rfl | rfl | rfl | rfl
        all_goals
          go_enter Try.func33, Try.ntmps33
          go_wp2_with fail
          refine HA.out.mono ?_
          rintro e wa ⟨rfl, rfl⟩
          go_wp2_with fail
          refine HB.out.mono ?_
          rintro e wa ⟨rfl, rfl⟩
          go_wp2
          go_ret
          exact ⟨rfl, HB2.out⟩
  · have hm2 : m0B d.m0 = false := by simpa using hm
    rw [hm2, Bool.false_and]
    clear hm hdc2
    unfold m0B at hm2
    obtain ⟨us, cl, su, pr, m0, ve, pd, re, ma, nm, se, cf⟩ := d
    simp only [Bool.or_eq_false_iff] at hm2
    obtain ⟨e1, e2, e3, e4⟩ := hm2
    try simp only at *
    obtain ⟨_, c0, c1, c2, c3, c4, c5, c6, c7, c8, c9, c10, c11⟩ := hdc
    go_enter Try.func33, Try.ntmps33
    go_wp2
    go_ret
    exact ⟨rfl, HB0.out⟩
end Go.Proofs.Ytonheibhbilhhaa.desc

/- desc: devices: what WriteDevice answers. -/
namespace Go.Proofs.Ytonheibhbilhhaa.desc
open Go.RowKit Go.PlainAid Go.Proofs.Ytonheibhbilhhaa.lane
set_option linter.unusedVariables false

theorem bys_lit (w : World) (B : Nat) (ys : List Int) (hB : B ≤ w.heap.size) (hm : ys.length ≤ maxLen) : Bys (w.alloc (.cells (ys.map (Value.int .u8)).toArray 5)) B (.slice (some ⟨w.heap.size, 0, none⟩) ys.length ys.length) ys := by
  have := World.ownsRow_lit (base := B) (e := 5) (size := 1) w (ys.map (Value.int .u8)).toArray ys.length hB hm (by simp)
  unfold Bys
  simpa using this
set_option maxHeartbeats 1000000 in
theorem writeDevice_no (d : Dv) (w : World) (h : devOk d = false) : Calls Try.prog 17 #[dvV d] w fun e w' => e = .returned (.tuple #[.string ⟨#[]⟩, .int .i64 1]) ∧ Below w.heap.size w w' := by
  have HD : Hid (∀ u : World, Calls Try.prog 33 #[dvV d] u fun e w' => e = .returned (.bool false) ∧ Below u.heap.size u w') := fun u => by have := isDevice_any d u; rw [h] at this; exact this
  obtain ⟨us, cl, su, pr, m0, ve, pd, re, ma, nm, se, cf⟩ := d
  try simp only at *
  clear h
  go_enter Try.func17, Try.ntmps17
  go_wp2_with fail
  refine (HD.out _).mono ?_
  rintro e wa ⟨rfl, hb⟩
  have HB : Hid (Below w.heap.size w wa) := bsq (balloc _ _) hb
  clear hb
  go_wp2
  go_ret2
  exact ⟨rfl, HB.out⟩
set_option maxHeartbeats 1000000 in
theorem writeDevice_yes (d : Dv) (w : World) (h : devOk d = true) : Calls Try.prog 17 #[dvV d] w fun e w' => e = .returned (.tuple #[.string (strOfNums (devL d)), .int .i64 0]) ∧ Below w.heap.size w w' := by
  have HD : Hid (∀ u : World, Calls Try.prog 33 #[dvV d] u fun e w' => e = .returned (.bool true) ∧ Below u.heap.size u w') := fun u => by have := isDevice_any d u; rw [h] at this; exact this
  obtain ⟨hm, ⟨⟨b0, b0'⟩, ⟨b1, b1'⟩, ⟨b2, b2'⟩, ⟨b3, b3'⟩, ⟨b4, b4'⟩, ⟨b5, b5'⟩, ⟨b6, b6'⟩⟩, ⟨⟨k0, k0'⟩, ⟨k1, k1'⟩, ⟨k2, k2'⟩, ⟨k3, k3'⟩⟩, hcf⟩ := (devOk_iff d).1 h
  have m1 : 0 ≤ d.m0 := by omega
  have m2 : d.m0 ≤ 255 := by omega
  have HC := fun u => DvC.new u d
  unfold devL
  obtain ⟨us, cl, su, pr, m0, ve, pd, re, ma, nm, se, cf⟩ := d
  simp only at *
  clear h hm hcf
  go_enter Try.func17, Try.ntmps17
  go_wp2_with fail
  refine (HD.out _).mono ?_
  rintro e wa ⟨rfl, hb⟩
  have HB : Hid (Below w.heap.size w wa) := bsq (balloc _ _) hb
  have HE : Hid (DvC wa w.heap.size ⟨us, cl, su, pr, m0, ve, pd, re, ma, nm, se, cf⟩) := (HC w).below hb (by simp)
  have hz1 : w.heap.size + 1 ≤ wa.heap.size := by have := hb.size; simpa using this
  clear hb HC HD
  obtain ⟨wb, hwb⟩ : ∃ wb, wa.alloc (.cells #[.int .u8 18, .int .u8 1] 5) = wb := ⟨_, rfl⟩
  have HT : Hid (Bys wb wa.heap.size (.slice (some ⟨wa.heap.size, 0, none⟩) 2 2) [18, 1]) := by rw [← hwb]; exact bys_lit wa _ [18, 1] (Nat.le_refl _) (by simp [maxLen])
  have HBb : Hid (Below wa.heap.size wa wb) := by rw [← hwb]; exact balloc _ _
  have HEb : Hid (DvC wb w.heap.size ⟨us, cl, su, pr, m0, ve, pd, re, ma, nm, se, cf⟩) := HE.out.below HBb.out (by omega)
  obtain ⟨_, c0, c1, c2, c3, c4, c5, c6, c7, c8, c9, c10, c11⟩ := HE.out
  have g0 : wb.cell? ⟨w.heap.size, 0, none⟩ = some (.int .i64 us) := HEb.out.c0
  have hzb : wa.heap.size ≤ wb.heap.size := HBb.out.size
  go_wp2_with fail
  refine (appendWord_any wa.heap.size _ [18, 1] us k0 k0' _ HT.out hzb (by decide)).mono ?_
  rintro e wc ⟨v1, rfl, h1, h2⟩
  have HBc : Hid (Below wa.heap.size wa wc) := HBb.out.trans h2
  have HEc : Hid (DvC wc w.heap.size ⟨us, cl, su, pr, m0, ve, pd, re, ma, nm, se, cf⟩) := HE.out.below HBc.out (by omega)
  have HTc : Hid (Bys wc wa.heap.size v1 ([18, 1] ++ wrd us)) := h1
  have hzc : wa.heap.size ≤ wc.heap.size := HBc.out.size
  clear h1 h2 hwb HT HBb HEb g0 c0 c1 c2 c3 c4 c5 c6 c7 c8 c9 c10 c11
  obtain ⟨_, c0, c1, c2, c3, c4, c5, c6, c7, c8, c9, c10, c11⟩ := HEc.out
  go_wp2_with (at_builtin; (refine wpList_bys _ rfl _ _ rfl wa.heap.size _ ([18, 1] ++ wrd us) rfl (World.ownsRow.alloc HTc.out _) wc.heap.size 4 4 [cl, su, pr, m0] rfl rfl (bys_new wc [cl, su, pr, m0] _) (by simp [wrd]) (by omega) (by simp; omega) ?_))
  intro v2 wd h1 hg1 h2
  have HBd : Hid (Below wa.heap.size wa wd) := (HBc.out.alloc (by omega) _).trans h2
  have HEd : Hid (DvC wd w.heap.size ⟨us, cl, su, pr, m0, ve, pd, re, ma, nm, se, cf⟩) := HE.out.below HBd.out (by omega)
  have HTd : Hid (Bys wd wa.heap.size v2 ([18, 1] ++ wrd us ++ [cl, su, pr, m0])) := h1
  have hzd : wa.heap.size ≤ wd.heap.size := HBd.out.size
  clear h1 h2 hg1 HTc HBc HEc c0 c1 c2 c3 c4 c5 c6 c7 c8 c9 c10 c11
  obtain ⟨_, c0, c1, c2, c3, c4, c5, c6, c7, c8, c9, c10, c11⟩ := HEd.out
  go_wp2_with fail
  refine (appendWord_any wa.heap.size _ _ ve k1 k1' _ HTd.out hzd (by simp [wrd])).mono ?_
  rintro e we ⟨v3, rfl, h1, h2⟩
  have HBe : Hid (Below wa.heap.size wa we) := HBd.out.trans h2
  have HEe : Hid (DvC we w.heap.size ⟨us, cl, su, pr, m0, ve, pd, re, ma, nm, se, cf⟩) := HE.out.below HBe.out (by omega)
  have HTe : Hid (Bys we wa.heap.size v3 ([18, 1] ++ wrd us ++ [cl, su, pr, m0] ++ wrd ve)) := h1
  have hze : wa.heap.size ≤ we.heap.size := HBe.out.size
  clear h1 h2 HTd HBd HEd c0 c1 c2 c3 c4 c5 c6 c7 c8 c9 c10 c11
  obtain ⟨_, c0, c1, c2, c3, c4, c5, c6, c7, c8, c9, c10, c11⟩ := HEe.out
  go_wp2_with fail
  refine (appendWord_any wa.heap.size _ _ pd k2 k2' _ HTe.out hze (by simp [wrd])).mono ?_
  rintro e wf ⟨v4, rfl, h1, h2⟩
  have HBf : Hid (Below wa.heap.size wa wf) := HBe.out.trans h2
  have HEf : Hid (DvC wf w.heap.size ⟨us, cl, su, pr, m0, ve, pd, re, ma, nm, se, cf⟩) := HE.out.below HBf.out (by omega)
  have HTf : Hid (Bys wf wa.heap.size v4 ([18, 1] ++ wrd us ++ [cl, su, pr, m0] ++ wrd ve ++ wrd pd)) := h1
  have hzf : wa.heap.size ≤ wf.heap.size := HBf.out.size
  clear h1 h2 HTe HBe HEe c0 c1 c2 c3 c4 c5 c6 c7 c8 c9 c10 c11
  obtain ⟨_, c0, c1, c2, c3, c4, c5, c6, c7, c8, c9, c10, c11⟩ := HEf.out
  go_wp2_with fail
  refine (appendWord_any wa.heap.size _ _ re k3 k3' _ HTf.out hzf (by simp [wrd])).mono ?_
  rintro e wg ⟨v5, rfl, h1, h2⟩
  have HBg : Hid (Below wa.heap.size wa wg) := HBf.out.trans h2
  have HEg : Hid (DvC wg w.heap.size ⟨us, cl, su, pr, m0, ve, pd, re, ma, nm, se, cf⟩) := HE.out.below HBg.out (by omega)
  have HTg : Hid (Bys wg wa.heap.size v5 ([18, 1] ++ wrd us ++ [cl, su, pr, m0] ++ wrd ve ++ wrd pd ++ wrd re)) := h1
  have hzg : wa.heap.size ≤ wg.heap.size := HBg.out.size
  clear h1 h2 HTf HBf HEf c0 c1 c2 c3 c4 c5 c6 c7 c8 c9 c10 c11
  obtain ⟨_, c0, c1, c2, c3, c4, c5, c6, c7, c8, c9, c10, c11⟩ := HEg.out
  go_wp2_with (at_builtin; (refine wpList_bys _ rfl _ _ rfl wa.heap.size _ ([18, 1] ++ wrd us ++ [cl, su, pr, m0] ++ wrd ve ++ wrd pd ++ wrd re) rfl (World.ownsRow.alloc HTg.out _) wg.heap.size 4 4 [ma, nm, se, cf] rfl rfl (bys_new wg [ma, nm, se, cf] _) (by simp [wrd]) (by omega) (by simp; omega) ?_))
  intro v6 wh h1 hg1 h2
  have HBh : Hid (Below wa.heap.size wa wh) := (HBg.out.alloc (by omega) _).trans h2
  obtain ⟨L, hL⟩ : ∃ L, [18, 1] ++ wrd us ++ [cl, su, pr, m0] ++ wrd ve ++ wrd pd ++ wrd re ++ [ma, nm, se, cf] = L := ⟨_, rfl⟩
  have h3 : Bys wh wa.heap.size v6 L := by rw [← hL]; simpa using h1
  have HL : Hid ([18, 1] ++ wrd us ++ [cl, su, pr, m0] ++ wrd ve ++ wrd pd ++ wrd re ++ [ma, nm, se, cf] = L) := hL
  have hcv := h3.conv
  clear h1 h2 h3 hg1 HTg HBg HEg c0 c1 c2 c3 c4 c5 c6 c7 c8 c9 c10 c11 hL
  go_wp2
  go_ret2
  refine ⟨?_, HB.out.trans (HBh.out.mono HB.out.size)⟩
  have e := HL.out
  subst e
  rfl
/-- what WriteDevice answers -/
def wdT (d : Dv) : ByteArray := if devOk d = true then strOfNums (devL d) else ⟨#[]⟩
def wdC (d : Dv) : Int := if devOk d = true then 0 else 1
theorem writeDevice_any (d : Dv) (w : World) : Calls Try.prog 17 #[dvV d] w fun e w' => e = .returned (.tuple #[.string (wdT d), .int .i64 (wdC d)]) ∧ Below w.heap.size w w' := by
  unfold wdT wdC
  by_cases h : devOk d = true
  · rw [if_pos h, if_pos h]; exact writeDevice_yes d w h
  · rw [if_neg h, if_neg h]; exact writeDevice_no d w (by simpa using h)
end Go.Proofs.Ytonheibhbilhhaa.desc
