/- gadget: what to answers. -/
import Derived.Test.YtonheibhbilhhaaZAn
namespace Go.Proofs.Ytonheibhbilhhaa.gadget
open Go.RowKit Go.PlainAid Go.Proofs.Ytonheibhbilhhaa.lane Go.Proofs.Ytonheibhbilhhaa.desc
open Go.Proofs.Ytonheibhbilhhaa.setup (inS inS_iff askc good rK rN rC good_words)
set_option linter.unusedVariables false
set_option linter.unusedSimpArgs false

theorem AnP.behind {p : Nat} {w w2 : World} {X : Ans} {e : Ending} {w' : World} (hb : Below p w w2) (h : AnP p w2 X e w') : AnP p w X e w' := ⟨h.1, hb.trans h.2.1, h.2.2⟩
theorem act_1 (d : Dv) (c : Cf) (T : List (List Int)) (s a h v i l : Int) : act d c T s a h 1 v i l = ⟨s, a, h, strOfNums [0, 0], 0⟩ := by unfold act; rw [if_pos rfl]
theorem act_5 (d : Dv) (c : Cf) (T : List (List Int)) (s a h v i l : Int) : act d c T s a h 5 v i l = desA s a h l (desO d c T v) := by
  unfold act
  rw [if_neg (by omega), if_pos rfl]
  cases desO d c T v <;> rfl
theorem act_4 (d : Dv) (c : Cf) (T : List (List Int)) (s a h v i l : Int) : act d c T s a h 4 v i l = (if s = 2 then bad s a h 8 else if v = 0 then ⟨0, 0, 0, noT, 0⟩ else ⟨1, v, 0, noT, 0⟩) := by
  unfold act; rw [if_neg (show ¬ (4 : Int) = 1 by omega), if_neg (show ¬ (4 : Int) = 5 by omega), if_pos (show (4 : Int) = 4 from rfl)]
theorem act_6 (d : Dv) (c : Cf) (T : List (List Int)) (s a h v i l : Int) : act d c T s a h 6 v i l = (if s = 0 then bad s a h 8 else if v = 0 then ⟨1, a, 0, noT, 0⟩ else if v = c.va then ⟨2, a, 0, noT, 0⟩ else bad s a h 8) := by
  unfold act; rw [if_neg (show ¬ (6 : Int) = 1 by omega), if_neg (show ¬ (6 : Int) = 5 by omega), if_neg (show ¬ (6 : Int) = 4 by omega), if_pos (show (6 : Int) = 6 from rfl)]
theorem act_7 (d : Dv) (c : Cf) (T : List (List Int)) (s a h v i l : Int) : act d c T s a h 7 v i l = (if s = 0 then bad s a h 8 else if s = 1 then ⟨s, a, h, strOfNums [0], 0⟩ else ⟨s, a, h, strOfNums [c.va], 0⟩) := by
  unfold act; rw [if_neg (show ¬ (7 : Int) = 1 by omega), if_neg (show ¬ (7 : Int) = 5 by omega), if_neg (show ¬ (7 : Int) = 4 by omega), if_neg (show ¬ (7 : Int) = 6 by omega), if_pos (show (7 : Int) = 7 from rfl)]
theorem act_23 (d : Dv) (c : Cf) (T : List (List Int)) (s a h k v i l : Int) (hk : k = 2 ∨ k = 3) : act d c T s a h k v i l = (if s ≠ 2 then bad s a h 8 else if hasE c i = false then bad s a h 8 else if k = 3 then ⟨s, a, hOn h (bitE i), noT, 0⟩ else ⟨s, a, hOff h (bitE i), noT, 0⟩) := by
  unfold act; rw [if_neg (show ¬ k = 1 by omega), if_neg (show ¬ k = 5 by omega), if_neg (show ¬ k = 4 by omega), if_neg (show ¬ k = 6 by omega), if_neg (show ¬ k = 7 by omega), if_pos hk]
theorem act_8 (d : Dv) (c : Cf) (T : List (List Int)) (s a h k v i l : Int) (hk : 8 ≤ k) : act d c T s a h k v i l = bad s a h 12 := by
  unfold act; rw [if_neg (show ¬ k = 1 by omega), if_neg (show ¬ k = 5 by omega), if_neg (show ¬ k = 4 by omega), if_neg (show ¬ k = 6 by omega), if_neg (show ¬ k = 7 by omega), if_neg (show ¬ (k = 2 ∨ k = 3) by omega)]
theorem gR_state {s a h : Int} (hg : gR s a h = true) : (s = 0 ∨ s = 1 ∨ s = 2) ∧ (s ≠ 2 → h = 0) ∧ (s = 2 → 0 ≤ h ∧ h ≤ 4294967295) := by
  have := gR_iff.1 hg
  omega
set_option maxRecDepth 100000 in
set_option maxHeartbeats 8000000 in
theorem to_any (p : Nat) (s a h : Int) (k x i l : Int) (d : Dv) (c : Cf) (L : FL) (v : Value) (T : List (List Int)) (tv : Value) (w : World) (hp : w.heap[p]? = some (anO s a h noT)) (hs : Shr w c L v T tv) (hgo : good k x i l = true) (hg : gR s a h = true) (hok : chkC c = 0) :
    Calls Try.prog 88 #[.pointer (some ⟨p, 0, none⟩), setup.ask k x i l, shV d c v tv] w (AnP p w (act d c T s a h k x i l)) := by
  have hpw : p < w.heap.size := (Array.getElem?_eq_some_iff.1 hp).1
  obtain ⟨wa, hwa, ha0, hba⟩ := ask_named w k x i l
  obtain ⟨w0, hw0, hS0, hb0⟩ := ShC.named wa d c v tv
  have hz1 : w.heap.size ≤ wa.heap.size := hba.size
  have hz2 : wa.heap.size ≤ w0.heap.size := hb0.size
  have hs0 : Shr w0 c L v T tv := hs.below (bsq hba hb0)
  obtain ⟨fa, fn, fcp, rfl⟩ : ∃ a n c, v = .slice a n c := by obtain ⟨a, c, h, _⟩ := hs.rc.fs.row; exact ⟨_, _, _, h⟩
  obtain ⟨ta, tn, tcp, rfl⟩ : ∃ a n c, tv = .slice a n c := by obtain ⟨a, c, h, _⟩ := hs.tx; exact ⟨_, _, _, h⟩
  have hp0 : w0.heap[p]? = some (anO s a h noT) := keep (keep hp hba) hb0
  have HB : Hid (Below p w w0) := (hba.mono (by omega)).trans (hb0.mono (by omega))
  have HP : Hid (w0.heap[p]? = some (anO s a h noT)) := hp0
  obtain ⟨a0, a1, a2, a3⟩ := ask_box (keep ha0 hb0)
  obtain ⟨hst, hh0, hh2⟩ := gR_state hg
  obtain ⟨⟨k1, k2⟩, ⟨v1, v2⟩, _, ⟨l1, l2⟩⟩ := good_words hgo
  have hva : 0 ≤ c.va ∧ c.va ≤ 255 := by have := (chkC_ok hok).head.1; omega
  clear hp hba hb0 ha0 hs hz1 hz2 hg hpw
  by_cases q1 : k = 1
  · subst q1
    rw [act_1]
    obtain ⟨⟨hz, c0, c1, c2, c3⟩, f0, f1, f2, f3⟩ := an_box hp0
    clear hs0 hS0 hp0 hgo hst hh0 hh2 hva k1 k2 v1 v2 l1 l2 hok
    go_enter Try.func88, Try.ntmps88
    go_wp2
    go_ret
    exact ⟨rfl, bset HB.out _ _, an_set 3 _ HP.out rfl⟩
  by_cases q5 : k = 5
  · subst q5
    rw [act_5]
    have HC : Hid (Calls Try.prog 101 #[.pointer (some ⟨p, 0, none⟩), setup.ask 5 x i l, shV d c (.slice fa fn fcp) (.slice ta tn tcp)] w0 (AnP p w0 (desA s a h l (desO d c T x)))) := describe_any p s a h 5 x i l d c L _ T _ w0 hp0 hs0 v1 v2 l1 l2
    obtain ⟨_, c0, c1, c2, c3, c4, c5, c6, c7, c8, c9, c10, c11, c12, c13, c14, c15, c16, c17⟩ := ShC.of hS0
    generalize desA s a h l (desO d c T x) = X at *
    clear hs0 hS0 hp0 hgo hst hh0 hh2 hva k1 k2 v1 v2 l1 l2 hok q1
    go_enter Try.func88, Try.ntmps88
    go_wp2_with fail
    refine HC.out.mono ?_
    rintro e u ⟨rfl, hb, hc⟩
    have HQ : Hid (AnP p w X (.returned (.int .i64 X.e)) u) := AnP.behind HB.out ⟨rfl, hb, hc⟩
    clear hb hc
    go_wp2
    go_ret
    exact HQ.out
  by_cases q4 : k = 4
  · subst q4
    rw [act_4]
    have HC : Hid (Calls Try.prog 102 #[.pointer (some ⟨p, 0, none⟩), .int .i64 x] w0 (AnP p w0 (if s = 2 then bad s a h 8 else if x = 0 then ⟨0, 0, 0, noT, 0⟩ else ⟨1, x, 0, noT, 0⟩))) := address_any p s a h x w0 hp0 hh0
    generalize (if s = 2 then bad s a h 8 else if x = 0 then (⟨0, 0, 0, noT, 0⟩ : Ans) else ⟨1, x, 0, noT, 0⟩) = X at *
    clear hs0 hS0 hp0 hgo hst hh0 hh2 hva k1 k2 v1 v2 l1 l2 hok q1 q5
    go_enter Try.func88, Try.ntmps88
    go_wp2_with fail
    refine HC.out.mono ?_
    rintro e u ⟨rfl, hb, hc⟩
    have HQ : Hid (AnP p w X (.returned (.int .i64 X.e)) u) := AnP.behind HB.out ⟨rfl, hb, hc⟩
    clear hb hc
    go_wp2
    go_ret
    exact HQ.out
  obtain ⟨_, _, _, _, _, _, _, _, _, _, _, _, _, c12, c13, c14, c15, c16, _⟩ := ShC.of hS0
  by_cases q6 : k = 6
  · subst q6
    rw [act_6]
    have HC : Hid (Calls Try.prog 103 #[.pointer (some ⟨p, 0, none⟩), .int .i64 x, cfV c (.slice fa fn fcp)] w0 (AnP p w0 (if s = 0 then bad s a h 8 else if x = 0 then ⟨1, a, 0, noT, 0⟩ else if x = c.va then ⟨2, a, 0, noT, 0⟩ else bad s a h 8))) := configure_any p s a h x c fa fn fcp w0 hp0
    generalize (if s = 0 then bad s a h 8 else if x = 0 then (⟨1, a, 0, noT, 0⟩ : Ans) else if x = c.va then ⟨2, a, 0, noT, 0⟩ else bad s a h 8) = X at *
    clear hs0 hS0 hp0 hgo hst hh0 hh2 hva k1 k2 v1 v2 l1 l2 hok q1 q5 q4
    go_enter Try.func88, Try.ntmps88
    go_wp2_with fail
    refine HC.out.mono ?_
    rintro e u ⟨rfl, hb, hc⟩
    have HQ : Hid (AnP p w X (.returned (.int .i64 X.e)) u) := AnP.behind HB.out ⟨rfl, hb, hc⟩
    clear hb hc
    go_wp2
    go_ret
    exact HQ.out
  by_cases q7 : k = 7
  · subst q7
    rw [act_7]
    have HC : Hid (Calls Try.prog 104 #[.pointer (some ⟨p, 0, none⟩), cfV c (.slice fa fn fcp)] w0 (AnP p w0 (if s = 0 then bad s a h 8 else if s = 1 then ⟨s, a, h, strOfNums [0], 0⟩ else ⟨s, a, h, strOfNums [c.va], 0⟩))) := configured_any p s a h c fa fn fcp w0 hp0 hst hva
    generalize (if s = 0 then bad s a h 8 else if s = 1 then (⟨s, a, h, strOfNums [0], 0⟩ : Ans) else ⟨s, a, h, strOfNums [c.va], 0⟩) = X at *
    clear hs0 hS0 hp0 hgo hst hh0 hh2 hva k1 k2 v1 v2 l1 l2 hok q1 q5 q4 q6
    go_enter Try.func88, Try.ntmps88
    go_wp2_with fail
    refine HC.out.mono ?_
    rintro e u ⟨rfl, hb, hc⟩
    have HQ : Hid (AnP p w X (.returned (.int .i64 X.e)) u) := AnP.behind HB.out ⟨rfl, hb, hc⟩
    clear hb hc
    go_wp2
    go_ret
    exact HQ.out
  by_cases q8 : 8 ≤ k
  · rw [act_8 _ _ _ _ _ _ _ _ _ _ q8]
    have r1 : (k == 1) = false := by simpa using q1
    have r2 : (k == 2) = false := by simp; omega
    have r3 : (k == 3) = false := by simp; omega
    have r4 : (k == 4) = false := by simpa using q4
    have r5 : (k == 5) = false := by simpa using q5
    have r6 : (k == 6) = false := by simpa using q6
    have r7 : (k == 7) = false := by simpa using q7
    clear hs0 hS0 hp0 hgo hst hh0 hh2 hva k1 k2 v1 v2 l1 l2 hok q1 q5 q4 q6 q7 q8 c12 c13 c14 c15 c16
    go_enter Try.func88, Try.ntmps88
    go_wp2
    go_ret
    exact ⟨rfl, HB.out, HP.out⟩
  have hk : k = 2 ∨ k = 3 := by omega
  rw [act_23 _ _ _ _ _ _ _ _ _ _ hk]
  have HC : Hid (Calls Try.prog 105 #[.pointer (some ⟨p, 0, none⟩), setup.ask k x i l, cfV c (.slice fa fn fcp)] w0 (AnP p w0 (if s ≠ 2 then bad s a h 8 else if hasE c i = false then bad s a h 8 else if k = 3 then ⟨s, a, hOn h (bitE i), noT, 0⟩ else ⟨s, a, hOff h (bitE i), noT, 0⟩))) := halt_any p s a h k x i l c L _ w0 hp0 hs0.rc hok hk (good_end hgo hk) hh2
  generalize (if s ≠ 2 then bad s a h 8 else if hasE c i = false then bad s a h 8 else if k = 3 then (⟨s, a, hOn h (bitE i), noT, 0⟩ : Ans) else ⟨s, a, hOff h (bitE i), noT, 0⟩) = X at *
  clear hs0 hS0 hp0 hgo hst hh0 hh2 hva k1 k2 v1 v2 l1 l2 hok q1 q5 q4 q6 q7 q8
  rcases hk with rfl | rfl
  all_goals
    go_enter Try.func88, Try.ntmps88
    go_wp2_with fail
    refine HC.out.mono ?_
    rintro e u ⟨rfl, hb, hc⟩
    have HQ : Hid (AnP p w X (.returned (.int .i64 X.e)) u) := AnP.behind HB.out ⟨rfl, hb, hc⟩
    clear hb hc
    go_wp2
    go_ret
    exact HQ.out
end Go.Proofs.Ytonheibhbilhhaa.gadget
