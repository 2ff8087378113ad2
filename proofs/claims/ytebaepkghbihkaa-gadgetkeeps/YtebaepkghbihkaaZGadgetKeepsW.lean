/- GadgetKeeps: the walk. -/
import Derived.Test.YtebaepkghbihkaaZAp
import Derived.Test.YtebaepkghbihkaaZBh
import Derived.Test.YtebaepkghbihkaaZAk
namespace Go.Proofs.Ytebaepkghbihkaa.gadgetKeeps
open Go.RowKit Go.PlainAid Go.Proofs.Ytebaepkghbihkaa.desc Go.Proofs.Ytebaepkghbihkaa.gadget
open Go.Proofs.Ytebaepkghbihkaa.setup (rK rN rC askc good)
set_option linter.unusedVariables false
set_option linter.unusedSimpArgs false
/-- what is told behind an ask without an error -/
theorem ok_facts {d : Dv} {c : Cf} {T : List (List Int)} {s a h : Int} {q : ByteArray} (he : (ctl d c T s a h q).e = 0) :
    rC q = 0 ∧ gR (ctl d c T s a h q).s (ctl d c T s a h q).a (ctl d c T s a h q).h = true ∧ ((ctl d c T s a h q).a = a ∨ rK q = 4) ∧ ((ctl d c T s a h q).s = s ∨ rK q = 4 ∨ rK q = 6) ∧ ((ctl d c T s a h q).h = h ∨ rK q = 6 ∨ rK q = 3 ∨ rK q = 2) := by
  by_cases h1 : chkS d c T = 0
  · cases h2 : gR s a h with
    | false => rw [← ctl_1 h1 h2] at he; simp [bad] at he
    | true =>
      by_cases h3 : rC q = 0
      · refine ⟨h3, ?_⟩
        have e := ctl_3 (q := q) h1 h2 h3
        rw [← e] at he ⊢
        have hgo := read_good h3
        generalize rK q = k at *
        generalize rN q 2 = v at *
        generalize rN q 4 = i at *
        generalize rN q 6 = l at *
        clear e h3
        have hg := gR_iff.1 h2
        unfold act at he ⊢
        by_cases q1 : k = 1
        · rw [if_pos q1]; exact ⟨h2, .inl rfl, .inl rfl, .inl rfl⟩
        rw [if_neg q1] at he ⊢
        by_cases q5 : k = 5
        · rw [if_pos q5] at he ⊢
          cases hd : desO d c T v with
          | none => rw [hd] at he; simp [bad] at he
          | some t => exact ⟨h2, .inl rfl, .inl rfl, .inl rfl⟩
        rw [if_neg q5] at he ⊢
        by_cases q4 : k = 4
        · rw [if_pos q4] at he ⊢
          have hv : 0 ≤ v ∧ v ≤ 127 := good_addr (by rw [← q4]; exact hgo)
          by_cases z : s = 2
          · rw [if_pos z] at he; simp [bad] at he
          · rw [if_neg z] at he ⊢
            have h0 : h = 0 := by omega
            by_cases y : v = 0
            · rw [if_pos y]; exact ⟨by decide, .inr q4, .inr (.inl q4), .inl h0.symm⟩
            · rw [if_neg y]; exact ⟨gR_iff.2 (.inr (.inl ⟨rfl, by show 1 ≤ v; omega, by show v ≤ 127; omega, rfl⟩)), .inr q4, .inr (.inl q4), .inl h0.symm⟩
        rw [if_neg q4] at he ⊢
        by_cases q6 : k = 6
        · rw [if_pos q6] at he ⊢
          by_cases z : s = 0
          · rw [if_pos z] at he; simp [bad] at he
          · rw [if_neg z] at he ⊢
            by_cases y : v = 0
            · rw [if_pos y]; exact ⟨gR_iff.2 (.inr (.inl ⟨rfl, by show 1 ≤ a; omega, by show a ≤ 127; omega, rfl⟩)), .inl rfl, .inr (.inr q6), .inr (.inl q6)⟩
            · rw [if_neg y] at he ⊢
              by_cases x : v = c.va
              · rw [if_pos x]; exact ⟨gR_iff.2 (.inr (.inr ⟨rfl, by show 1 ≤ a; omega, by show a ≤ 127; omega, by show (0 : Int) ≤ 0; omega, by show (0 : Int) ≤ 4294967295; omega⟩)), .inl rfl, .inr (.inr q6), .inr (.inl q6)⟩
              · rw [if_neg x] at he; simp [bad] at he
        rw [if_neg q6] at he ⊢
        by_cases q7 : k = 7
        · rw [if_pos q7] at he ⊢
          by_cases z : s = 0
          · rw [if_pos z] at he; simp [bad] at he
          · rw [if_neg z]
            by_cases y : s = 1
            · rw [if_pos y]; exact ⟨h2, .inl rfl, .inl rfl, .inl rfl⟩
            · rw [if_neg y]; exact ⟨h2, .inl rfl, .inl rfl, .inl rfl⟩
        rw [if_neg q7] at he ⊢
        by_cases q2 : k = 2 ∨ k = 3
        · rw [if_pos q2] at he ⊢
          by_cases z : s ≠ 2
          · rw [if_pos z] at he; simp [bad] at he
          · rw [if_neg z] at he ⊢
            by_cases y : hasE c i = false
            · rw [if_pos y] at he; simp [bad] at he
            · rw [if_neg y]
              have hb := bitE_lt (good_end hgo q2)
              have hs2 : s = 2 := by omega
              have hr : 0 ≤ h ∧ h ≤ 4294967295 := by omega
              have hr2 := set_range h (bitE i) hb hr.1 hr.2
              by_cases x : k = 3
              · rw [if_pos x]; exact ⟨gR_iff.2 (.inr (.inr ⟨hs2, by show 1 ≤ a; omega, by show a ≤ 127; omega, hr2.1.1, hr2.1.2⟩)), .inl rfl, .inl rfl, .inr (.inr (.inl x))⟩
              · rw [if_neg x]; exact ⟨gR_iff.2 (.inr (.inr ⟨hs2, by show 1 ≤ a; omega, by show a ≤ 127; omega, hr2.2.1, hr2.2.2⟩)), .inl rfl, .inl rfl, .inr (.inr (.inr (by omega)))⟩
        · rw [if_neg q2] at he; simp [bad] at he
      · rw [← ctl_2 h1 h2 h3] at he; simp [bad] at he
  · rw [← ctl_0 h1] at he; exact absurd he h1
/-- with an error all is told as it was -/
theorem bad_facts {d : Dv} {c : Cf} {T : List (List Int)} {s a h : Int} {q : ByteArray} (he : ¬ (ctl d c T s a h q).e = 0) : ctl d c T s a h q = bad s a h (ctl d c T s a h q).e := by
  by_cases h1 : chkS d c T = 0
  · cases h2 : gR s a h with
    | false => rw [← ctl_1 h1 h2]; rfl
    | true =>
      by_cases h3 : rC q = 0
      · rw [← ctl_3 h1 h2 h3] at he ⊢; exact act_bad he
      · rw [← ctl_2 h1 h2 h3]; rfl
  · rw [← ctl_0 h1]; rfl
theorem or2 {x y : Int} {k n : Int} (h : x = y ∨ k = n) : (x == y) = true ∨ ((x == y) = false ∧ (k == n) = true) := by
  by_cases e : x = y
  · exact .inl (by simpa using e)
  · rcases h with h | h
    · exact absurd h e
    · exact .inr ⟨by simpa using e, by simpa using h⟩
theorem or3 {x y : Int} {k n m : Int} (h : x = y ∨ k = n ∨ k = m) : (x == y) = true ∨ ((x == y) = false ∧ (k == n) = true) ∨ ((x == y) = false ∧ (k == n) = false ∧ (k == m) = true) := by
  by_cases e : x = y
  · exact .inl (by simpa using e)
  · by_cases e2 : k = n
    · exact .inr (.inl ⟨by simpa using e, by simpa using e2⟩)
    · exact .inr (.inr ⟨by simpa using e, by simpa using e2, by rcases h with h | h | h; exact absurd h e; exact absurd h e2; simpa using h⟩)
theorem or4 {x y : Int} {k n m p : Int} (h : x = y ∨ k = n ∨ k = m ∨ k = p) : (x == y) = true ∨ ((x == y) = false ∧ (k == n) = true) ∨ ((x == y) = false ∧ (k == n) = false ∧ (k == m) = true) ∨ ((x == y) = false ∧ (k == n) = false ∧ (k == m) = false ∧ (k == p) = true) := by
  by_cases e : x = y
  · exact .inl (by simpa using e)
  · by_cases e2 : k = n
    · exact .inr (.inl ⟨by simpa using e, by simpa using e2⟩)
    · by_cases e3 : k = m
      · exact .inr (.inr (.inl ⟨by simpa using e, by simpa using e2, by simpa using e3⟩))
      · exact .inr (.inr (.inr ⟨by simpa using e, by simpa using e2, by simpa using e3, by rcases h with h | h | h | h; exact absurd h e; exact absurd h e2; exact absurd h e3; simpa using h⟩))
set_option maxRecDepth 100000 in
set_option maxHeartbeats 16000000 in
theorem walk (d : Dv) (c : Cf) (L : FL) (v : Value) (T : List (List Int)) (tv : Value) (s a h : Int) (q : ByteArray) (hq : q.size ≤ maxLen) (w : World) (hs : Shr w c L v T tv) :
    Calls Try.prog 5 #[shV d c v tv, gdV s a h, .string q] w fun e w' => e = .returned (.bool true) ∧ Below w.heap.size w w' := by
  obtain ⟨w1, hw1, hS1, hb1⟩ := ShC.named w d c v tv
  obtain ⟨w2, hw2, hG2, hb2⟩ := gd_named w1 s a h
  have HG : Hid (∀ u : World, Below w2.heap.size w2 u → u.heap[w1.heap.size]? = some (gdO s a h)) := fun u hu => keep hG2 hu
  have HB2 : Hid (Below w.heap.size w w2) := bsq hb1 hb2
  have hS2 : w2.heap[w.heap.size]? = some (shO d c v tv) := keep hS1 hb2
  have hs2 : Shr w2 c L v T tv := hs.below (bsq hb1 hb2)
  obtain ⟨fa, fn, fcp, rfl⟩ : ∃ a n c, v = .slice a n c := by obtain ⟨a, c, h, _⟩ := hs.rc.fs.row; exact ⟨_, _, _, h⟩
  obtain ⟨ta, tn, tcp, rfl⟩ : ∃ a n c, tv = .slice a n c := by obtain ⟨a, c, h, _⟩ := hs.tx; exact ⟨_, _, _, h⟩
  have HC : Hid (Calls Try.prog 11 #[shV d c (.slice fa fn fcp) (.slice ta tn tcp), gdV s a h, .string q] w2 fun e w' => e = .returned (ansV (ctl d c T s a h q)) ∧ Below w2.heap.size w2 w') := control_any d c L _ T _ s a h q w2 hs2 hq
  have HL : Hid (∀ u : World, Calls Try.prog 13 #[] u fun e w' => e = .returned (.bool true) ∧ Below u.heap.size u w') := gadgetLives_any
  have HRd : Hid (∀ u : World, Calls Try.prog 14 #[.string q] u fun e w' => e = .returned (.tuple #[setup.ask (rK q) (rN q 2) (rN q 4) (rN q 6), .int .i64 (rC q)]) ∧ Below u.heap.size u w') := setup.read_any q hq
  have HOK : Hid ((ctl d c T s a h q).e = 0 → _) := ok_facts (d := d) (c := c) (T := T) (s := s) (a := a) (h := h) (q := q)
  have HBD : Hid (¬ (ctl d c T s a h q).e = 0 → ctl d c T s a h q = bad s a h (ctl d c T s a h q).e) := bad_facts
  generalize ctl d c T s a h q = Y at *
  obtain ⟨⟨zg, g0, g1, g2⟩, _⟩ := gd_box (HG.out w2 (Below.refl _ _))
  clear hs hs2 hq hb1 hb2 hS1 hG2
  go_enter Try.func5, Try.ntmps5
  go_upto_region 1 with (fail)
  go_cut [0, 1, 7, 8, 9] from 12 (fun _ _ pv tw cv wx => ∃ X : Nat, pv = .pointer (some ⟨X, 0, none⟩) ∧ tw = .string Y.t ∧ cv = .int .i64 Y.e ∧ Hid (Below w2.heap.size w2 wx ∧ wx.heap[X]? = some (gdO Y.s Y.a Y.h)))
  case first =>
    go_wp2_with (refine wpList_sheet rfl _ rfl w.heap.size rfl hS2 ?_)
    refine HC.out.mono ?_
    rintro e u ⟨rfl, hb⟩
    go_wp2_with fail
    go_meet
    case rel => exact ⟨u.heap.size, rfl, rfl, rfl, bsq hb (balloc _ _), (MapKept.heap_alloc u _).1⟩
  case rest =>
  obtain ⟨X, rfl, rfl, rfl, HX⟩ := hcut
  rename World => ua
  have HBa : Hid (Below w2.heap.size w2 ua) := HX.out.1
  have HXa : Hid (∀ u : World, Below ua.heap.size ua u → u.heap[X]? = some (gdO Y.s Y.a Y.h)) := fun u hu => keep HX.out.2 hu
  clear HX hS2 zg g0 g1 g2 HC
  by_cases he : ¬ Y.e = 0
  · have hY := HBD.out he
    have e1 : (Y.e != 0) = true := by simpa using he
    generalize hz : Y.e = z at *
    subst hY
    simp only [bad] at *
    clear HBD HOK HRd he hz
    go_wp2_with fail
    refine (HL.out _).mono ?_
    rintro e ub ⟨rfl, hbb⟩
    have HBb : Hid (Below ua.heap.size ua ub) := hbb
    clear hbb
    go_wp2_with fail
    refine (HL.out _).mono ?_
    rintro e uc ⟨rfl, hbc⟩
    have HBc : Hid (Below ua.heap.size ua uc) := bsq HBb.out hbc
    clear hbc
    obtain ⟨⟨zg, g0, g1, g2⟩, _⟩ := gd_box (HG.out uc (bsq HBa.out HBc.out))
    obtain ⟨⟨zx, x0, x1, x2⟩, _⟩ := gd_box (HXa.out uc HBc.out)
    have hq := eql_gd s a h s a h
    rw [same_self] at hq
    go_wp2
    go_ret
    exact ⟨rfl, bsq HB2.out (bsq HBa.out HBc.out)⟩
  have he : Y.e = 0 := by omega
  obtain ⟨r3, gY, oa, os, oh⟩ := HOK.out he
  have e1 : (Y.e != 0) = false := by simpa using he
  rw [r3] at HRd
  obtain ⟨Ys, Ya, Yh, Yt, Ye⟩ := Y
  simp only at *
  have HGd : Hid (∀ u : World, Calls Try.prog 15 #[gdV Ys Ya Yh] u fun e w' => e = .returned (.bool true) ∧ Below u.heap.size u w') := fun u => by have := gadget_any Ys Ya Yh u; rw [gY] at this; exact this
  have oa := or2 oa
  have os := or3 os
  have oh := or4 oh
  clear HBD HOK he r3 gY
  generalize rK q = k at *
  generalize rN q 2 = vq at *
  generalize rN q 4 = iq at *
  generalize rN q 6 = lq at *
  go_upto_region 2 with (fail)
  go_cut [25] from 12 (fun bv wx => bv = .bool false ∧ Hid (Below ua.heap.size ua wx))
  case first =>
    go_wp2_with fail
    refine (HL.out _).mono ?_
    rintro e ub ⟨rfl, hbb⟩
    go_wp2_with fail
    go_meet
    case rel => exact ⟨rfl, hbb⟩
  case rest =>
  obtain ⟨rfl, HBb⟩ := hcut
  rename World => ub
  go_upto_region 4 with (fail)
  go_cut [2, 10, 11] from 12 (fun _ pv cv wx => ∃ W : World, pv = .pointer (some ⟨W.heap.size, 0, none⟩) ∧ cv = .int .i64 0 ∧ Hid (Below ua.heap.size ua wx ∧ wx.heap[W.heap.size]? = some (askc k vq iq lq)))
  case first =>
    go_wp2_with fail
    refine (HRd.out _).mono ?_
    rintro e uc ⟨rfl, hbc⟩
    go_wp2_with fail
    go_meet
    case rel => exact ⟨uc, rfl, rfl, bsq HBb.out (bsq hbc (balloc _ _)), (MapKept.heap_alloc uc _).1⟩
  case rest =>
  rename World => ud
  obtain ⟨W, rfl, rfl, HW⟩ := hcut
  have HBd : Hid (Below ua.heap.size ua ud) := HW.out.1
  have HAd : Hid (∀ u : World, Below ud.heap.size ud u → u.heap[W.heap.size]? = some (askc k vq iq lq)) := fun u hu => keep HW.out.2 hu
  clear HW HRd HBb
  obtain ⟨⟨zy, y0, y1, y2⟩, _⟩ := gd_box (HXa.out ud HBd.out)
  go_wp2_with fail
  refine (HGd.out _).mono ?_
  rintro e ue ⟨rfl, hbe⟩
  have HBe : Hid (Below ua.heap.size ua ue) := bsq HBd.out hbe
  obtain ⟨a0, a1, a2, a3⟩ := ask_box (HAd.out ue hbe)
  clear hbe zy y0 y1 y2
  obtain ⟨⟨zg, g0, g1, g2⟩, _⟩ := gd_box (HG.out ue (bsq HBa.out HBe.out))
  obtain ⟨⟨zx, x0, x1, x2⟩, _⟩ := gd_box (HXa.out ue HBe.out)
  clear HG HXa HAd HGd HL
  rcases oa with A | ⟨A, A1⟩
  all_goals rcases os with B | ⟨B, B1⟩ | ⟨B, B1, B2⟩
  all_goals rcases oh with C | ⟨C, C1⟩ | ⟨C, C1, C2⟩ | ⟨C, C1, C2, C3⟩
  all_goals
    go_wp2
    go_ret
    exact ⟨rfl, bsq HB2.out (bsq HBa.out HBe.out)⟩
end Go.Proofs.Ytebaepkghbihkaa.gadgetKeeps
