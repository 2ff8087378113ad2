/- slots, the document's answer: what Between and endsIn answer; the plain part of Board. -/
import Derived.Test.YthjmcopknkemnabSltL
import Derived.Test.YthjmcopknkemnabSltS
namespace Go.Proofs.Ythjmcopknkemnab.slots
open Go Go.RowKit
set_option linter.unusedVariables false
set_option linter.unusedSimpArgs false
set_option maxRecDepth 100000

theorem between_any (a b c : Int) (w : World) : Calls Try.prog 49 #[.int .i64 a, .int .i64 b, .int .i64 c] w fun e w' => e = .returned (.bool (decide (b ≤ a) && decide (a ≤ c))) ∧ w = w' := by
  cases h1 : decide (b ≤ a) <;> cases h2 : decide (a ≤ c) <;> (go_enter Try.func49, Try.ntmps49; go_wp2; go_ret; exact ⟨rfl, rfl⟩)
set_option maxHeartbeats 1000000 in
theorem endsIn_any (s : List Int) (w : World) (hs : s.length = 66) : Calls Try.prog 50 #[ag s, .int .i64 2, .int .i64 31] w fun e w' => e = .returned (.bool (hasS s)) ∧ Below w.heap.size w w' := by
  obtain ⟨q, hq⟩ : ∃ q, hasS s = q := ⟨_, rfl⟩
  have HQ : Hid (hasS s = q) := hq
  have HL : Hid (s.length = 66) := hs
  have hM := Mm.nil w
  rw [hq]
  clear hq hs
  go_enter Try.func50, Try.ntmps50
  repeat' (first | (go_big_may; first | (refine a_box rfl rfl rfl ?_; intro u zb hN; replace hM := hM.new hN; clear hN)) | go_values | go_skip | go_guarded | go_step | go_upon | (simp only [Int.not_lt, Int.not_le] at *; go_simp))
  go_loopw [7] (fun i wr => ∃ k : Nat, 2 ≤ k ∧ k ≤ 32 ∧ i = .int .i64 (k : Int) ∧ u = wr ∧ Hid (anyF 32 (fun k => en s k != 0) k = q)) (fun i _ => 32 - (intOf i).toNat)
  case atStart => exact ⟨2, by omega, by omega, rfl, rfl, HQ.out⟩
  case round =>
    obtain ⟨k, hk2, hk, rfl, rfl, HA⟩ := hrel
    by_cases hlt : ¬ k < 32
    · have HQ2 : Hid (false = q) := by have := HA.out; rw [anyF_end (by omega)] at this; exact this
      clear HA HQ
      repeat' (first | go_values | go_skip | go_guarded | go_step | go_upon | (simp only [Int.not_lt, Int.not_le] at *; go_simp))
      go_ret
      rw [← HQ2.out]
      exact ⟨rfl, hM.below⟩
    have hlt : k < 32 := by omega
    have HG : Hid (s[2 + k]? = some (cl s (2 + k))) := cl_at (by rw [HL.out]; omega)
    have HS := HA.out
    rw [anyF_step hlt] at HS
    have HA2 : Hid ((cl s (2 + k) != 0) = true ∧ true = q ∨ (cl s (2 + k) != 0) = false ∧ anyF 32 (fun k => en s k != 0) (k + 1) = q) := by
      unfold en at HS
      cases hq : (cl s (2 + k) != 0)
      · rw [hq] at HS; exact .inr ⟨rfl, HS⟩
      · rw [hq] at HS; exact .inl ⟨rfl, HS⟩
    clear HA HS HQ
    rcases HA2.out with ⟨h1, h2⟩ | ⟨h1, h2⟩
    · have HQ2 : Hid (true = q) := h2
      clear h2 HA2
      repeat' (first | (go_big_may; first | (refine a_get rfl rfl rfl hM.at0 HG.out ?_)) | go_values | go_skip | go_guarded | go_step | go_upon | (simp only [Int.not_lt, Int.not_le] at *; go_simp))
      go_ret
      rw [← HQ2.out]
      exact ⟨rfl, hM.below⟩
    · have HQ2 : Hid (anyF 32 (fun k => en s k != 0) (k + 1) = q) := h2
      clear h2 HA2
      repeat' (first | (go_big_may; first | (refine a_get rfl rfl rfl hM.at0 HG.out ?_)) | go_values | go_skip | go_guarded | go_step | go_upon | (simp only [Int.not_lt, Int.not_le] at *; go_simp))
      go_roundw
      case rel => exact ⟨k + 1, by omega, by omega, by go_num, trivial, HQ2.out⟩
      case measure => simp [intOf]; omega
/-- what is asked of a slot that has an address, the first part -/
def r1 (s : List Int) : Bool := adB (ad s) && (en s 0 == 0) && (en s 1 != 0) && (hasS s == (st s == 3))
/-- is the slot k right, by the document? -/
def refAt (B : Bd) (k : Nat) : Bool :=
  (decide (k ≠ 0) || decide (sl B k = z66)) && ((decide (0 ≤ st (sl B k)) && decide (st (sl B k) ≤ 3)) &&
    if st (sl B k) < 2 then decide ((sl B k).set 0 0 = z66) else r1 (sl B k) && (allF 32 (fun j => eok (en (sl B k) j) (mk (sl B k) j)) 0 && allF k (fun j => ad (sl B j) != ad (sl B k)) 0))
theorem set_one {s : List Int} (hs : s.length = 66) (h : s.set 0 0 = z66) : s = one (st s) := by
  refine cl_ext hs (one_len _) fun j hj => ?_
  have : cl (s.set 0 0) j = cl z66 j := by rw [h]
  rw [cl_set, z_is, cl_one] at this
  rw [cl_one]
  by_cases q : j = 0
  · rw [if_pos q, q]; rfl
  · rw [if_neg (by omega), if_neg q] at this
    rw [if_neg q]; exact this
theorem one_set {x : Int} : (one x).set 0 0 = z66 := rfl
theorem refAt_iff {B : Bd} (hw : Wf B) {k : Nat} (hk : k < 9) : refAt B k = true ↔ (k = 0 → sl B k = z66) ∧ right (sl B k) = true ∧ (2 ≤ st (sl B k) → ∀ j, j < k → ad (sl B j) ≠ ad (sl B k)) := by
  have hs := hw.sl hk
  unfold refAt r1
  generalize sl B k = s at *
  rw [right_iff]
  by_cases h2 : st s < 2
  · rw [if_pos h2]
    simp only [Bool.and_eq_true, Bool.or_eq_true, decide_eq_true_eq]
    constructor
    · rintro ⟨h0, ⟨h3, h4⟩, h5⟩
      refine ⟨fun q => ?_, ?_, fun q => by omega⟩
      · rcases h0 with z | z
        · exact absurd q z
        · exact z
      · have := set_one hs h5
        have hst : st s = 0 ∨ st s = 1 := by omega
        rcases hst with q | q
        · rw [q] at this; exact .inl this
        · rw [q] at this; exact .inr (.inl this)
    · rintro ⟨h0, h3, _⟩
      refine ⟨?_, ?_, ?_⟩
      · by_cases q : k = 0
        · exact .inr (h0 q)
        · exact .inl q
      · rcases h3 with q | q | q
        · rw [q, st_one]; omega
        · rw [q, st_one]; omega
        · have := q.st; omega
      · rcases h3 with q | q | q
        · rw [q]; rfl
        · rw [q]; rfl
        · have := q.st; omega
  · rw [if_neg h2]
    simp only [Bool.and_eq_true, Bool.or_eq_true, decide_eq_true_eq, adB_iff, beq_iff_eq, bne_iff_ne, allF_iff]
    constructor
    · rintro ⟨h0, ⟨h3, h4⟩, ⟨⟨⟨h5, h6⟩, h7⟩, h8⟩, h9, h10⟩
      refine ⟨fun q => ?_, .inr (.inr ⟨by omega, h5.1, h5.2, fun j hj => h9 j (Nat.zero_le _) hj, h6, h7, ?_⟩), fun _ j hj => h10 j (Nat.zero_le _) hj⟩
      · rcases h0 with z | z
        · exact absurd q z
        · exact z
      · rw [← hasS_iff, h8]; simp
    · rintro ⟨h0, h3, h10⟩
      rcases h3 with q | q | q
      · rw [q, st_one] at h2; omega
      · rw [q, st_one] at h2; omega
      · have hst := q.st
        refine ⟨?_, by omega, ⟨⟨⟨⟨q.a1, q.a2⟩, q.e0⟩, q.e1⟩, ?_⟩, fun j _ hj => q.ok j hj, fun j _ hj => h10 (by omega) j hj⟩
        · by_cases z : k = 0
          · exact .inr (h0 z)
          · exact .inl z
        · rw [Bool.eq_iff_iff, hasS_iff, q.more]; simp
theorem ref_chk {B : Bd} (hw : Wf B) : allF 9 (refAt B) 0 = chk B := by
  rw [Bool.eq_iff_iff, allF_iff, chk_iff hw]
  constructor
  · intro h
    have h' := fun i hi => (refAt_iff hw hi).1 (h i (Nat.zero_le _) hi)
    refine ⟨(h' 0 (by omega)).1 rfl, fun i hi => (h' i hi).2.1, fun i j hij hj e => ?_⟩
    by_cases q : 2 ≤ st (sl B j)
    · exact absurd e ((h' j hj).2.2 q i hij)
    · rw [e]
      have := right_ad (h' j hj).2.1
      omega
  · intro h k _ hk
    refine (refAt_iff hw hk).2 ⟨fun q => by rw [q]; exact h.zero, h.right k hk, fun q j hj e => ?_⟩
    have := h.apart j k hj hk e
    have := right_ad (h.right k hk)
    omega
theorem r1_eq (s : List Int) : r1 s = (((adB (cl s 1) && !(cl s 2 != 0)) && !(cl s 3 == 0)) && !(hasS s != (cl s 0 == 3))) := by
  unfold r1 ad en st bne
  simp
theorem eok_ref (e m : Int) : eok e m = ((decide (0 ≤ e) && decide (e ≤ 3)) && ((decide (0 ≤ m) && decide (m ≤ 65535)) && !((e == 0) && (m != 0)))) := by
  rw [Bool.eq_iff_iff]
  unfold eok mkB
  by_cases e0 : e = 0
  · subst e0
    simp
    omega
  · rw [if_neg e0]
    by_cases e1 : e = 1 ∨ e = 2 ∨ e = 3
    · rw [if_pos e1]
      simp [e0]
      omega
    · rw [if_neg e1]
      simp
      omega
theorem run_sl (Z k : Nat) (hk : k ≤ 9) (w : World) : (Instr.sliceAt 30 (.pointer (some ⟨Z, 0, none⟩)) none (some (.int .i64 (k : Int))) none).run Try.prog w = .ok (.slice (some ⟨Z, 0, none⟩) k 9) w := by
  unfold Instr.sliceAt
  simp [run_underlying Try.underlying30, Instr.sureAddr, Instr.sliceBounds, size_slot, go_sem, hk]
  intro h
  omega
theorem chE_ok {B : Bd} (hw : Wf B) (h : Ok B) : chE B = 0 := by unfold chE; rw [if_pos ((chk_iff hw).2 h)]
theorem Mm.tail {w u : World} {a : Bk} {L : List Bk} (h : Mm w u (a :: L)) : Mm w u L := ⟨fun x hx => h.lies x (List.mem_cons_of_mem _ hx), fun x hx => h.own x (List.mem_cons_of_mem _ hx), (List.nodup_cons.1 h.ap).2, h.below⟩
end Go.Proofs.Ythjmcopknkemnab.slots
