/- gadget: what halt, descriptor and describe do. -/
import Derived.Test.YtebaepkghbihkaaGadD
import Derived.Deep.RegionWith
import Derived.Laws.Strings2
namespace Go.Proofs.Ytebaepkghbihkaa.gadget
open Go.RowKit Go.PlainAid Go.Proofs.Ytebaepkghbihkaa.lane Go.Proofs.Ytebaepkghbihkaa.desc
open Go.Proofs.Ytebaepkghbihkaa.setup (inS inS_iff askc)
open Go.Proofs.Ytebaepkghbihkaa.utf (werr)
set_option linter.unusedVariables false
set_option linter.unusedSimpArgs false

theorem ask_named (w : World) (k v i l : Int) : ∃ w0, w.alloc (askc k v i l) = w0 ∧ w0.heap[w.heap.size]? = some (askc k v i l) ∧ Below w.heap.size w w0 := ⟨_, rfl, (MapKept.heap_alloc w _).1, balloc _ _⟩
theorem ask_box {u : World} {X : Nat} {k v i l : Int} (h : u.heap[X]? = some (askc k v i l)) :
    u.cell? ⟨X, 0, none⟩ = some (.int .i64 k) ∧ u.cell? ⟨X, 1, none⟩ = some (.int .i64 v) ∧ u.cell? ⟨X, 2, none⟩ = some (.int .i64 i) ∧ u.cell? ⟨X, 3, none⟩ = some (.int .i64 l) := by
  refine ⟨?_, ?_, ?_, ?_⟩ <;> (rw [cell_of_row u X _ _ _ (0, 0) h]; rfl)
theorem haltOf_any (i : Int) (hi : (0 ≤ i ∧ i ≤ 15) ∨ (128 ≤ i ∧ i ≤ 143)) (w : World) : Calls Try.prog 88 #[.int .i64 i] w fun e w' => e = .returned (.int .i64 (2 ^ bitE i)) ∧ w = w' := by
  unfold bitE
  by_cases h : i < 128
  · rw [if_pos h]
    have := haltOf_out i.toNat (by omega) w
    rwa [Int.toNat_of_nonneg (by omega)] at this
  · rw [if_neg h]
    have := haltOf_in (i - 128).toNat (by omega) w
    rwa [show (128 : Int) + (((i - 128).toNat : Nat) : Int) = i by omega, show 16 + (i - 128).toNat = (i - 112).toNat by omega] at this
set_option maxRecDepth 100000 in
set_option maxHeartbeats 8000000 in
theorem halt_any (p : Nat) (s a h : Int) (k vv i l : Int) (c : Cf) (L : FL) (v : Value) (w : World) (hp : w.heap[p]? = some (anO s a h noT)) (hc : Rc w v c L) (hok : chkC c = 0) (hk : k = 2 ∨ k = 3) (hi : (0 ≤ i ∧ i ≤ 15) ∨ (128 ≤ i ∧ i ≤ 143)) (hh : s = 2 → 0 ≤ h ∧ h ≤ 4294967295) :
    Calls Try.prog 65 #[.pointer (some ⟨p, 0, none⟩), setup.ask k vv i l, cfV c v] w (AnP p w (if s ≠ 2 then bad s a h 8 else if hasE c i = false then bad s a h 8 else if k = 3 then ⟨s, a, hOn h (bitE i), noT, 0⟩ else ⟨s, a, hOff h (bitE i), noT, 0⟩)) := by
  have hpw : p < w.heap.size := (Array.getElem?_eq_some_iff.1 hp).1
  obtain ⟨wa, hwa, ha0, hba⟩ := ask_named w k vv i l
  obtain ⟨w0, hw0, hc0, hb0⟩ := cf_named wa c v
  have hz1 : w.heap.size ≤ wa.heap.size := hba.size
  have hz2 : wa.heap.size ≤ w0.heap.size := hb0.size
  have hp0 := keep (keep hp hba) hb0
  have HE : Hid (∀ u : World, Below w0.heap.size w0 u → Calls Try.prog 87 #[cfV c v, .int .i64 i] u fun e w' => e = .returned (.bool (hasE c i)) ∧ Below u.heap.size u w') := fun u hu => hasEnd_any c L v i u (hc.below (bsq hba (bsq hb0 hu))) hok
  have HF : Hid (∀ u : World, Calls Try.prog 88 #[.int .i64 i] u fun e w' => e = .returned (.int .i64 (2 ^ bitE i)) ∧ u = w') := haltOf_any i hi
  have hbit : bitE i < 32 := bitE_lt hi
  obtain ⟨fa, fn, fcp, rfl⟩ : ∃ a n c, v = .slice a n c := by obtain ⟨a, c, h, _⟩ := hc.fs.row; exact ⟨_, _, _, h⟩
  have HP : Hid (w0.heap[p]? = some (anO s a h noT)) := hp0
  have HB : Hid (Below p w w0) := (hba.mono (by omega)).trans (hb0.mono (by omega))
  have HA : Hid (w0.heap[w.heap.size]? = some (askc k vv i l)) := keep ha0 hb0
  obtain ⟨⟨hz, c0, c1, c2, c3⟩, f0, f1, f2, f3⟩ := an_box hp0
  obtain ⟨a0, a1, a2, a3⟩ := ask_box HA.out
  obtain ⟨d0, d1, d2, d3, d4⟩ := box5 hc0
  clear hp hc hok hi hba hb0 hp0 hc0 ha0 hz1
  by_cases h2 : s ≠ 2
  · rw [if_pos h2]
    have e2 : (s != 2) = true := by simpa using h2
    clear h2 hh HE HF hbit
    go_enter Try.func65, Try.ntmps65
    go_wp2
    go_ret
    exact ⟨rfl, HB.out, HP.out⟩
  have h2 : s = 2 := by omega
  subst h2
  obtain ⟨hh0, hh1⟩ := hh rfl
  have hor := or_i64 h (bitE i) hbit hh0 hh1
  have hnot := not_i64 h (bitE i) hbit hh0 hh1
  rw [if_neg (by omega)]
  have HE0 := HE.out w0 (Below.refl _ _)
  have HE0 : Hid (Calls Try.prog 87 #[cfV c (.slice fa fn fcp), .int .i64 i] w0 fun e w' => e = .returned (.bool (hasE c i)) ∧ Below w0.heap.size w0 w') := HE0
  clear HE hh hh0 hh1 hbit h2
  generalize hasE c i = x at *
  generalize hOn h (bitE i) = hon at *
  generalize hOff h (bitE i) = hoff at *
  generalize bitE i = bt at *
  generalize (2 : Int) ^ bt = B at *
  cases x
  · rw [if_pos rfl]
    clear HF hor hnot
    go_enter Try.func65, Try.ntmps65
    go_wp2_with fail
    refine HE0.out.mono ?_
    rintro e u ⟨rfl, hb⟩
    have HBu : Hid (Below p w u) := HB.out.trans (hb.mono (by omega))
    have HPu : Hid (u.heap[p]? = some (anO 2 a h noT)) := keep HP.out hb
    clear hb HE0
    go_wp2
    go_ret
    exact ⟨rfl, HBu.out, HPu.out⟩
  rw [if_neg (by decide)]
  rcases hk with rfl | rfl
  · rw [if_neg (by decide)]
    go_enter Try.func65, Try.ntmps65
    go_wp2_with fail
    refine HE0.out.mono ?_
    rintro e u ⟨rfl, hb⟩
    have HBu : Hid (Below p w u) := HB.out.trans (hb.mono (by omega))
    have HPu : Hid (u.heap[p]? = some (anO 2 a h noT)) := keep HP.out hb
    have HAu : Hid (u.heap[w.heap.size]? = some (askc 2 vv i l)) := keep HA.out hb
    clear hb HE0 hz c0 c1 c2 c3 f0 f1 f2 f3 a0 a1 a2 a3 d0 d1 d2 d3 d4
    obtain ⟨⟨hz, c0, c1, c2, c3⟩, f0, f1, f2, f3⟩ := an_box HPu.out
    obtain ⟨a0, a1, a2, a3⟩ := ask_box HAu.out
    go_wp2_with fail
    go_region_with (go_at_call 88; refine (HF.out _).mono ?_; rintro r u2 ⟨rfl, rfl⟩)
    all_goals go_wp2
    all_goals go_ret
    all_goals exact ⟨rfl, (bset HBu.out _ _).drew, an_set 2 _ HPu.out rfl⟩
  · rw [if_pos rfl]
    go_enter Try.func65, Try.ntmps65
    go_wp2_with fail
    refine HE0.out.mono ?_
    rintro e u ⟨rfl, hb⟩
    have HBu : Hid (Below p w u) := HB.out.trans (hb.mono (by omega))
    have HPu : Hid (u.heap[p]? = some (anO 2 a h noT)) := keep HP.out hb
    have HAu : Hid (u.heap[w.heap.size]? = some (askc 3 vv i l)) := keep HA.out hb
    clear hb HE0 hz c0 c1 c2 c3 f0 f1 f2 f3 a0 a1 a2 a3 d0 d1 d2 d3 d4
    obtain ⟨⟨hz, c0, c1, c2, c3⟩, f0, f1, f2, f3⟩ := an_box HPu.out
    obtain ⟨a0, a1, a2, a3⟩ := ask_box HAu.out
    go_wp2_with fail
    go_region_with (go_at_call 88; refine (HF.out _).mono ?_; rintro r u2 ⟨rfl, rfl⟩)
    all_goals go_wp2
    all_goals go_ret
    all_goals exact ⟨rfl, (bset HBu.out _ _).drew, an_set 2 _ HPu.out rfl⟩
end Go.Proofs.Ytebaepkghbihkaa.gadget
