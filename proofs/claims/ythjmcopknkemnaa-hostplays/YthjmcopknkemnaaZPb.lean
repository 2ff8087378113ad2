/- slots, the document's answer: what Between and endsIn answer; the plain part of Board. -/
import Derived.Test.YthjmcopknkemnaaSltL
import Derived.Test.YthjmcopknkemnaaSltS
import Derived.Test.YthjmcopknkemnaaSltA
import Derived.OpenShut
import Derived.ChangeArms
import Derived.ChangeSame
import Derived.SliceStrings
import Derived.Carry
import Derived.SizedLaws
import Derived.Deep.Slices
import Derived.Deep.Strs
import Derived.Test.YthjmcopknkemnaaSltQ
import Derived.Laws.AppendOwn
import Derived.Laws.OwnMore
import Derived.OwnWalk
import Derived.Lib.OwnKind
import Derived.Deep.Onto
namespace Go.Proofs.Ythjmcopknkemnaa.slots
open Go Go.RowKit
set_option linter.unusedVariables false
set_option linter.unusedSimpArgs false
set_option maxRecDepth 100000

theorem between_any (a b c : Int) (w : World) : Calls Try.prog 32 #[.int .i64 a, .int .i64 b, .int .i64 c] w fun e w' => e = .returned (.bool (decide (b ≤ a) && decide (a ≤ c))) ∧ w = w' := by
  cases h1 : decide (b ≤ a) <;> cases h2 : decide (a ≤ c) <;> (go_enter Try.func32, Try.ntmps32; go_wp2; go_ret; exact ⟨rfl, rfl⟩)
set_option maxHeartbeats 1000000 in
theorem endsIn_any (s : List Int) (w : World) (hs : s.length = 66) : Calls Try.prog 83 #[ag s, .int .i64 2, .int .i64 31] w fun e w' => e = .returned (.bool (hasS s)) ∧ Below w.heap.size w w' := by
  obtain ⟨q, hq⟩ : ∃ q, hasS s = q := ⟨_, rfl⟩
  have HQ : Hid (hasS s = q) := hq
  have HL : Hid (s.length = 66) := hs
  have hM := Mm.nil w
  rw [hq]
  clear hq hs
  go_enter Try.func83, Try.ntmps83
  repeat' (first | (go_big_may; first | (refine a_box rfl rfl rfl ?_; intro u zb hN; replace hM := hM.new hN; clear hN)) | go_values | go_skip | go_guarded | go_step | go_upon | (simp only [Int.not_lt, Int.not_le] at *; go_simp))
  go_loopw [7] (fun i wr => ∃ k : Nat, 2 ≤ k ∧ k ≤ 32 ∧ i = .int .i64 (k : Int) ∧ u = wr ∧ Hid (anyF 32 (fun k => en s k != 0) k = q)) (fun i _ => 32 - (intOf i).toNat)
  case atStart => exact ⟨2, by omega, by omega, rfl, rfl, HQ.out⟩
  case round =>
    obtain ⟨k, hk2, hk, rfl, rfl, HA⟩ := hrel
    by_cases hlt : ¬ k < 32
    · have HQ2 : Hid (false = q) := by have := HA.out; rw [anyF_end (by omega)] at this; exact this
      clear HA HQ
      repeat' (first | go_values | go_skip | go_guarded | go_step | go_upon | (simp only [Int.not_lt, Int.not_le] at *; go_simp))
      go_ret
      rw [← HQ2.out]
      exact ⟨rfl, hM.below⟩
    have hlt : k < 32 := by omega
    have HG : Hid (s[2 + k]? = some (cl s (2 + k))) := cl_at (by rw [HL.out]; omega)
    have HS := HA.out
    rw [anyF_step hlt] at HS
    have HA2 : Hid ((cl s (2 + k) != 0) = true ∧ true = q ∨ (cl s (2 + k) != 0) = false ∧ anyF 32 (fun k => en s k != 0) (k + 1) = q) := by
      unfold en at HS
      cases hq : (cl s (2 + k) != 0)
      · rw [hq] at HS; exact .inr ⟨rfl, HS⟩
      · rw [hq] at HS; exact .inl ⟨rfl, HS⟩
    clear HA HS HQ
    rcases HA2.out with ⟨h1, h2⟩ | ⟨h1, h2⟩
    · have HQ2 : Hid (true = q) := h2
      clear h2 HA2
      repeat' (first | (go_big_may; first | (refine a_get rfl rfl rfl hM.at0 HG.out ?_)) | go_values | go_skip | go_guarded | go_step | go_upon | (simp only [Int.not_lt, Int.not_le] at *; go_simp))
      go_ret
      rw [← HQ2.out]
      exact ⟨rfl, hM.below⟩
    · have HQ2 : Hid (anyF 32 (fun k => en s k != 0) (k + 1) = q) := h2
      clear h2 HA2
      repeat' (first | (go_big_may; first | (refine a_get rfl rfl rfl hM.at0 HG.out ?_)) | go_values | go_skip | go_guarded | go_step | go_upon | (simp only [Int.not_lt, Int.not_le] at *; go_simp))
      go_roundw
      case rel => exact ⟨k + 1, by omega, by omega, by go_num, trivial, HQ2.out⟩
      case measure => simp [intOf]; omega
/-- what is asked of a slot that has an address, the first part -/
def r1 (s : List Int) : Bool := adB (ad s) && (en s 0 == 0) && (en s 1 != 0) && (hasS s == (st s == 3))
/-- is the slot k right, by the document? -/
def refAt (B : Bd) (k : Nat) : Bool :=
  (decide (k ≠ 0) || decide (sl B k = z66)) && ((decide (0 ≤ st (sl B k)) && decide (st (sl B k) ≤ 3)) &&
    if st (sl B k) < 2 then decide ((sl B k).set 0 0 = z66) else r1 (sl B k) && (allF 32 (fun j => eok (en (sl B k) j) (mk (sl B k) j)) 0 && allF k (fun j => ad (sl B j) != ad (sl B k)) 0))
theorem set_one {s : List Int} (hs : s.length = 66) (h : s.set 0 0 = z66) : s = one (st s) := by
  refine cl_ext hs (one_len _) fun j hj => ?_
  have : cl (s.set 0 0) j = cl z66 j := by rw [h]
  rw [cl_set, z_is, cl_one] at this
  rw [cl_one]
  by_cases q : j = 0
  · rw [if_pos q, q]; rfl
  · rw [if_neg (by omega), if_neg q] at this
    rw [if_neg q]; exact this
theorem one_set {x : Int} : (one x).set 0 0 = z66 := rfl
theorem refAt_iff {B : Bd} (hw : Wf B) {k : Nat} (hk : k < 9) : refAt B k = true ↔ (k = 0 → sl B k = z66) ∧ right (sl B k) = true ∧ (2 ≤ st (sl B k) → ∀ j, j < k → ad (sl B j) ≠ ad (sl B k)) := by
  have hs := hw.sl hk
  unfold refAt r1
  generalize sl B k = s at *
  rw [right_iff]
  by_cases h2 : st s < 2
  · rw [if_pos h2]
    simp only [Bool.and_eq_true, Bool.or_eq_true, decide_eq_true_eq]
    constructor
    · rintro ⟨h0, ⟨h3, h4⟩, h5⟩
      refine ⟨fun q => ?_, ?_, fun q => by omega⟩
      · rcases h0 with z | z
        · exact absurd q z
        · exact z
      · have := set_one hs h5
        have hst : st s = 0 ∨ st s = 1 := by omega
        rcases hst with q | q
        · rw [q] at this; exact .inl this
        · rw [q] at this; exact .inr (.inl this)
    · rintro ⟨h0, h3, _⟩
      refine ⟨?_, ?_, ?_⟩
      · by_cases q : k = 0
        · exact .inr (h0 q)
        · exact .inl q
      · rcases h3 with q | q | q
        · rw [q, st_one]; omega
        · rw [q, st_one]; omega
        · have := q.st; omega
      · rcases h3 with q | q | q
        · rw [q]; rfl
        · rw [q]; rfl
        · have := q.st; omega
  · rw [if_neg h2]
    simp only [Bool.and_eq_true, Bool.or_eq_true, decide_eq_true_eq, adB_iff, beq_iff_eq, bne_iff_ne, allF_iff]
    constructor
    · rintro ⟨h0, ⟨h3, h4⟩, ⟨⟨⟨h5, h6⟩, h7⟩, h8⟩, h9, h10⟩
      refine ⟨fun q => ?_, .inr (.inr ⟨by omega, h5.1, h5.2, fun j hj => h9 j (Nat.zero_le _) hj, h6, h7, ?_⟩), fun _ j hj => h10 j (Nat.zero_le _) hj⟩
      · rcases h0 with z | z
        · exact absurd q z
        · exact z
      · rw [← hasS_iff, h8]; simp
    · rintro ⟨h0, h3, h10⟩
      rcases h3 with q | q | q
      · rw [q, st_one] at h2; omega
      · rw [q, st_one] at h2; omega
      · have hst := q.st
        refine ⟨?_, by omega, ⟨⟨⟨⟨q.a1, q.a2⟩, q.e0⟩, q.e1⟩, ?_⟩, fun j _ hj => q.ok j hj, fun j _ hj => h10 (by omega) j hj⟩
        · by_cases z : k = 0
          · exact .inr (h0 z)
          · exact .inl z
        · rw [Bool.eq_iff_iff, hasS_iff, q.more]; simp
theorem ref_chk {B : Bd} (hw : Wf B) : allF 9 (refAt B) 0 = chk B := by
  rw [Bool.eq_iff_iff, allF_iff, chk_iff hw]
  constructor
  · intro h
    have h' := fun i hi => (refAt_iff hw hi).1 (h i (Nat.zero_le _) hi)
    refine ⟨(h' 0 (by omega)).1 rfl, fun i hi => (h' i hi).2.1, fun i j hij hj e => ?_⟩
    by_cases q : 2 ≤ st (sl B j)
    · exact absurd e ((h' j hj).2.2 q i hij)
    · rw [e]
      have := right_ad (h' j hj).2.1
      omega
  · intro h k _ hk
    refine (refAt_iff hw hk).2 ⟨fun q => by rw [q]; exact h.zero, h.right k hk, fun q j hj e => ?_⟩
    have := h.apart j k hj hk e
    have := right_ad (h.right k hk)
    omega
theorem r1_eq (s : List Int) : r1 s = (((adB (cl s 1) && !(cl s 2 != 0)) && !(cl s 3 == 0)) && !(hasS s != (cl s 0 == 3))) := by
  unfold r1 ad en st bne
  simp
theorem eok_ref (e m : Int) : eok e m = ((decide (0 ≤ e) && decide (e ≤ 3)) && ((decide (0 ≤ m) && decide (m ≤ 65535)) && !((e == 0) && (m != 0)))) := by
  rw [Bool.eq_iff_iff]
  unfold eok mkB
  by_cases e0 : e = 0
  · subst e0
    simp
    omega
  · rw [if_neg e0]
    by_cases e1 : e = 1 ∨ e = 2 ∨ e = 3
    · rw [if_pos e1]
      simp [e0]
      omega
    · rw [if_neg e1]
      simp
      omega
theorem run_sl (Z k : Nat) (hk : k ≤ 9) (w : World) : (Instr.sliceAt 39 (.pointer (some ⟨Z, 0, none⟩)) none (some (.int .i64 (k : Int))) none).run Try.prog w = .ok (.slice (some ⟨Z, 0, none⟩) k 9) w := by
  unfold Instr.sliceAt
  simp [run_underlying Try.underlying39, Instr.sureAddr, Instr.sliceBounds, size_slot, go_sem, hk]
  intro h
  omega
theorem chE_ok {B : Bd} (hw : Wf B) (h : Ok B) : chE B = 0 := by unfold chE; rw [if_pos ((chk_iff hw).2 h)]
theorem Mm.tail {w u : World} {a : Bk} {L : List Bk} (h : Mm w u (a :: L)) : Mm w u L := ⟨fun x hx => h.lies x (List.mem_cons_of_mem _ hx), fun x hx => h.own x (List.mem_cons_of_mem _ hx), (List.nodup_cons.1 h.ap).2, h.below⟩
end Go.Proofs.Ythjmcopknkemnaa.slots

/- slots, the document's answer: what Board answers. -/
namespace Go.Proofs.Ythjmcopknkemnaa.slots
open Go Go.RowKit
set_option linter.unusedVariables false
set_option linter.unusedSimpArgs false
set_option maxRecDepth 100000

theorem if_bad {a b : Bool} {q : Int} (h : (if (a && b) = true then (0 : Int) else 4) = q) (ha : a = false) : 4 = q := by subst ha; exact h
theorem if_ok {a b : Bool} {q : Int} (h : (if (a && b) = true then (0 : Int) else 4) = q) (ha : a = true) : (if b = true then (0 : Int) else 4) = q := by subst ha; simpa using h
set_option maxHeartbeats 16000000 in
theorem board_any (B : Bd) (w : World) (hw : Wf B) : Calls Try.prog 64 #[ag (fl B)] w fun e w' => e = .returned (.int .i64 (chE B)) ∧ Below w.heap.size w w' := by
  have HW : Hid (Wf B) := hw
  have HE9 : Hid (0 + 594 ≤ (fl B).length) := by show 0 + 594 ≤ _; rw [hw.length]; omega
  have HC9 : Hid (cut (fl B) 0 594 = fl B) := cut_all hw.length
  have HZL : Hid (z66.length = 66) := z_length
  have HZE : Hid (0 + 66 ≤ z66.length) := by show 0 + 66 ≤ _; rw [z_length]; omega
  have HZC : Hid (cut z66 0 66 = z66) := cut_all z_length
  have hb := bld_0
  obtain ⟨q, hq⟩ : ∃ q, chE B = q := ⟨_, rfl⟩
  have HQ : Hid ((if allF 9 (refAt B) 0 = true then (0 : Int) else 4) = q) := by show _ = q; rw [ref_chk hw, ← hq]; rfl
  rw [hq]
  clear hq hw
  obtain ⟨F, hF⟩ : ∃ F, fl B = F := ⟨_, rfl⟩
  have HF : Hid (fl B = F) := hF
  rw [hF] at HE9 HC9 ⊢
  clear hF
  have hM := Mm.nil w
  go_enter Try.func64, Try.ntmps64
  repeat' (first | (go_big_may; first | (refine a_box rfl rfl rfl ?_; intro u zbd hN; replace hM := hM.new hN; clear hN) | (refine a_build rfl rfl hb (by simp [Act.eval]) ?_) | (refine a_alloc rfl zer_slot rfl ?_; intro u zn hN; replace hM := hM.new hN; clear hN) | (refine a_fill rfl rfl row_slot rfl rfl hM.at0 HZL.out List.length_replicate ?_; intro u hv hc; replace hM := hM.put0 hc hv; clear hv hc) | (refine a_load rfl rfl row_slots rfl hM.at1 HE9.out HC9.out ?_)) | go_values | go_skip | go_guarded | go_step | go_upon | (simp only [Int.not_lt, Int.not_le] at *; go_simp))
  have HM : Hid (Mm w u [(zn, 38, z66), (zbd, 41, F)]) := hM
  clear hM hb
  go_loopw [4, 5, 6, 8, 12] (fun _ _ _ _ i wr => ∃ k : Nat, k ≤ 9 ∧ i = .int .i64 (k : Int) ∧ Hid ((if allF 9 (refAt B) k = true then (0 : Int) else 4) = q ∧ Mm w wr [(zn, 38, z66), (zbd, 41, F)])) (fun _ _ _ _ i _ => 9 - (intOf i).toNat)
  case atStart => exact ⟨0, by omega, rfl, HQ.out, HM.out⟩
  case round =>
    obtain ⟨k, hk, rfl, HA⟩ := hrel
    clear HQ HM
    by_cases hlt : ¬ k < 9
    · have HQ3 : Hid (0 = q) := by
        have := HA.out.1
        rw [allF_end (by omega)] at this
        exact this
      have hM := HA.out.2
      clear HA
      repeat' (first | go_values | go_skip | go_guarded | go_step | go_upon | (simp only [Int.not_lt, Int.not_le] at *; go_simp))
      go_ret
      rw [← HQ3.out]
      exact ⟨rfl, hM.below⟩
    have hlt : k < 9 := by omega
    have hM := HA.out.2
    have HS := HA.out.1
    rw [allF_step hlt] at HS
    have HQ2 : Hid ((if (refAt B k && allF 9 (refAt B) (k + 1)) = true then (0 : Int) else 4) = q) := HS
    clear HA HS
    have hix := run_indexS F k hlt
    rw [← HF.out, fl_cut HW.out hlt, HF.out] at hix
    have HSL : Hid ((sl B k).length = 66) := HW.out.sl hlt
    have HRA : Hid (refAt B k = ((decide (k ≠ 0) || decide (sl B k = z66)) && ((decide (0 ≤ st (sl B k)) && decide (st (sl B k) ≤ 3)) && if st (sl B k) < 2 then decide ((sl B k).set 0 0 = z66) else r1 (sl B k) && (allF 32 (fun j => eok (en (sl B k) j) (mk (sl B k) j)) 0 && allF k (fun j => ad (sl B j) != ad (sl B k)) 0)))) := rfl
    obtain ⟨s, hs⟩ : ∃ s, sl B k = s := ⟨_, rfl⟩
    have HSK : Hid (sl B k = s) := hs
    rw [hs] at hix HSL HRA
    clear hs
    have HE : Hid (0 + 66 ≤ s.length) := by show 0 + 66 ≤ _; rw [HSL.out]; omega
    have HC : Hid (cut s 0 66 = s) := cut_all HSL.out
    have G0 : Hid (s[0]? = some (cl s 0)) := cl_at (by rw [HSL.out]; omega)
    have G1 : Hid (s[1]? = some (cl s 1)) := cl_at (by rw [HSL.out]; omega)
    have G2 : Hid (s[2]? = some (cl s 2)) := cl_at (by rw [HSL.out]; omega)
    have G3 : Hid (s[3]? = some (cl s 3)) := cl_at (by rw [HSL.out]; omega)
    have HB3 : Hid (∀ u, Calls Try.prog 32 #[.int .i64 (cl s 0), .int .i64 0, .int .i64 3] u fun e w' => e = .returned (.bool (decide (0 ≤ cl s 0) && decide (cl s 0 ≤ 3))) ∧ u = w') := between_any _ _ _
    obtain ⟨b3, hb3⟩ : ∃ b, (decide (0 ≤ cl s 0) && decide (cl s 0 ≤ 3)) = b := ⟨_, rfl⟩
    obtain ⟨bz, hbz⟩ : ∃ b, decide (s = z66) = b := ⟨_, rfl⟩
    have HRB : Hid (refAt B k = ((decide (k ≠ 0) || bz) && (b3 && if st s < 2 then decide (s.set 0 0 = z66) else r1 s && (allF 32 (fun j => eok (en s j) (mk s j)) 0 && allF k (fun j => ad (sl B j) != ad s) 0)))) := by
      show _ = _
      rw [HRA.out, hbz]
      show (_ && ((decide (0 ≤ cl s 0) && decide (cl s 0 ≤ 3)) && _)) = _
      rw [hb3]
    have HBZ : Hid (decide (s = z66) = bz) := hbz
    rw [hb3] at HB3
    clear HRA hb3 hbz
    go_upto_region 5 with (first | (refine a_alloc rfl zer_slot rfl ?_; intro u zs hN; replace hM := hM.new hN; clear hN) | (refine a_fill rfl rfl row_slot rfl rfl hM.at0 HSL.out List.length_replicate ?_; intro u hv hc; replace hM := hM.put0 hc hv; clear hv hc))
    go_simp
    rename World => u
    clear hix
    go_cut [28] from 16 to 106 (fun bv wx => bv = .bool (!((decide (k ≠ 0) || bz) && b3)) ∧ Hid (Mm w wx [(zs, 38, s), (zn, 38, z66), (zbd, 41, F)]))
    case first =>
      by_cases hz : k = 0
      · have ek : ((k : Int) == 0) = true := by simpa using hz
        have HK : Hid (decide (k ≠ 0) = false) := decide_eq_false (fun h => h hz)
        have e0 := HBZ.out
        clear hz HBZ
        cases bz
        · repeat' (first | (go_big_may; first | (refine a_load rfl rfl row_slot rfl hM.at0 HE.out HC.out ?_) | (refine a_load rfl rfl row_slot rfl hM.at1 HZE.out HZC.out ?_) | (refine a_neq rfl rfl cmp_slot rfl rfl HSL.out HZL.out ?_; rw [e0])) | go_values | go_skip | go_guarded | go_step | go_upon | (simp only [Int.not_lt, Int.not_le] at *; go_simp))
          go_meet
          case rel => exact ⟨by rw [HK.out]; rfl, hM⟩
        · repeat' (first | (go_big_may; first | (refine a_load rfl rfl row_slot rfl hM.at0 HE.out HC.out ?_) | (refine a_load rfl rfl row_slot rfl hM.at1 HZE.out HZC.out ?_) | (refine a_neq rfl rfl cmp_slot rfl rfl HSL.out HZL.out ?_; rw [e0]) | (refine a_get rfl rfl rfl hM.at0 G0.out ?_)) | go_values | go_skip | go_guarded | go_step | go_upon | (simp only [Int.not_lt, Int.not_le] at *; go_simp))
          refine (HB3.out _).mono ?_
          rintro r v ⟨rfl, rfl⟩
          repeat' (first | go_values | go_skip | go_guarded | go_step | go_upon | (simp only [Int.not_lt, Int.not_le] at *; go_simp))
          go_meet
          case rel => exact ⟨by rw [HK.out]; rfl, hM⟩
      · have ek : ((k : Int) == 0) = false := by simpa using hz
        have HK : Hid (decide (k ≠ 0) = true) := decide_eq_true hz
        clear hz
        repeat' (first | (go_big_may; first | (refine a_get rfl rfl rfl hM.at0 G0.out ?_)) | go_values | go_skip | go_guarded | go_step | go_upon | (simp only [Int.not_lt, Int.not_le] at *; go_simp))
        refine (HB3.out _).mono ?_
        rintro r v ⟨rfl, rfl⟩
        repeat' (first | go_values | go_skip | go_guarded | go_step | go_upon | (simp only [Int.not_lt, Int.not_le] at *; go_simp))
        go_meet
        case rel => exact ⟨by rw [HK.out]; rfl, hM⟩
    case rest =>
    obtain ⟨rfl, HM⟩ := hcut
    clear hM HB3 HBZ
    rename World => u
    have hM := HM.out
    clear HM
    have HRC : Hid (refAt B k = (((decide (k ≠ 0) || bz) && b3) && if st s < 2 then decide (s.set 0 0 = z66) else r1 s && (allF 32 (fun j => eok (en s j) (mk s j)) 0 && allF k (fun j => ad (sl B j) != ad s) 0))) := by
      show _ = _
      rw [HRB.out, Bool.and_assoc]
    clear HRB
    generalize ((decide (k ≠ 0) || bz) && b3) = bb at *
    cases bb
    · have HQ3 : Hid (4 = q) := if_bad HQ2.out (by rw [HRC.out]; rfl)
      clear HQ2 HRC
      repeat' (first | go_values | go_skip | go_guarded | go_step | go_upon | (simp only [Int.not_lt, Int.not_le] at *; go_simp))
      go_ret
      rw [← HQ3.out]
      exact ⟨rfl, hM.below⟩
    have HRB := HRC
    clear HRC
    by_cases h2 : cl s 0 < 2
    · rw [if_pos (show st s < 2 from h2), Bool.true_and] at HRB
      have e2 : decide (cl s 0 < 2) = true := decide_eq_true h2
      have HL0 : Hid ((s.set 0 0).length = 66) := by show _ = 66; rw [List.length_set]; exact HSL.out
      have HE0 : Hid (0 + 66 ≤ (s.set 0 0).length) := by show 0 + 66 ≤ _; rw [HL0.out]; omega
      have HC0 : Hid (cut (s.set 0 0) 0 66 = s.set 0 0) := cut_all HL0.out
      have HJ : Hid (0 < s.length) := by show 0 < _; rw [HSL.out]; omega
      cases e0 : decide (s.set 0 0 = z66)
      · have HQ3 : Hid (4 = q) := if_bad HQ2.out (by rw [HRB.out, e0])
        clear HQ2 HRB
        repeat' (first | (go_big_may; first | (refine a_get rfl rfl rfl hM.at0 G0.out ?_) | (refine a_put rfl rfl rfl rfl hM.at0 HJ.out ?_; intro u hv hc; replace hM := hM.put0 hc hv; clear hv hc) | (refine a_load rfl rfl row_slot rfl hM.at0 HE0.out HC0.out ?_) | (refine a_load rfl rfl row_slot rfl hM.at1 HZE.out HZC.out ?_) | (refine a_neq rfl rfl cmp_slot rfl rfl HL0.out HZL.out ?_; rw [e0])) | go_values | go_skip | go_guarded | go_step | go_upon | (simp only [Int.not_lt, Int.not_le] at *; go_simp))
        go_ret
        rw [← HQ3.out]
        exact ⟨rfl, hM.below⟩
      · have HQ3 : Hid ((if allF 9 (refAt B) (k + 1) = true then (0 : Int) else 4) = q) := if_ok HQ2.out (by rw [HRB.out, e0])
        clear HQ2 HRB
        repeat' (first | (go_big_may; first | (refine a_get rfl rfl rfl hM.at0 G0.out ?_) | (refine a_put rfl rfl rfl rfl hM.at0 HJ.out ?_; intro u hv hc; replace hM := hM.put0 hc hv; clear hv hc) | (refine a_load rfl rfl row_slot rfl hM.at0 HE0.out HC0.out ?_) | (refine a_load rfl rfl row_slot rfl hM.at1 HZE.out HZC.out ?_) | (refine a_neq rfl rfl cmp_slot rfl rfl HL0.out HZL.out ?_; rw [e0])) | go_values | go_skip | go_guarded | go_step | go_upon | (simp only [Int.not_lt, Int.not_le] at *; go_simp))
        go_roundw
        case rel => exact ⟨k + 1, by omega, by go_num, HQ3.out, hM.tail⟩
        case measure => simp [intOf]; omega
    rw [if_neg (show ¬ st s < 2 from h2), Bool.true_and, r1_eq s] at HRB
    have e2 : decide (cl s 0 < 2) = false := decide_eq_false h2
    clear h2
    have HBt : Hid (∀ u, Calls Try.prog 32 #[.int .i64 (cl s 1), .int .i64 1, .int .i64 127] u fun e w' => e = .returned (.bool (adB (cl s 1))) ∧ u = w') := between_any _ _ _
    have HEn : Hid (∀ u, Calls Try.prog 83 #[ag s, .int .i64 2, .int .i64 31] u fun e w' => e = .returned (.bool (hasS s)) ∧ Below u.heap.size u w') := fun u => endsIn_any s u HSL.out
    generalize hasS s = hh at *
    go_upto_region 11 with (refine a_get rfl rfl rfl hM.at0 G0.out ?_)
    go_cut [59] from 36 to 106 (fun bv wx => bv = .bool (!(((adB (cl s 1) && !(cl s 2 != 0)) && !(cl s 3 == 0)) && !(hh != (cl s 0 == 3)))) ∧ Hid (Mm w wx [(zs, 38, s), (zn, 38, z66), (zbd, 41, F)]))
    case first =>
      refine wp_abs (fun a0 => a0.tmps.size = 107 ∧ (∀ h, a0.tmps[5]'h = .pointer (some ⟨zs, 0, none⟩))) ⟨rfl, fun _ => rfl⟩ ?_
      rintro a0 ⟨hsz, s5⟩ ha0
      refine wp_region_held (S := fun W => Mm w W [(zs, 38, s), (zn, 38, z66), (zbd, 41, F)]) (by kernel_rfl) ?_
      have hS : Mm w u.drew [(zs, 38, s), (zn, 38, z66), (zbd, 41, F)] := ⟨hM.lies, hM.own, hM.ap, hM.below.drew⟩
      refine h_take (i := 0) (.pointer (some ⟨zs, 1, none⟩)) rfl (by kernel_rfl) (by kernel_rfl) (by kernel_rfl) (fun _ _ _ h => h) rfl hS (fun W hW => by simp [execOp, go_sem, Act.put, hsz, s5]) ?_
      refine h_take (i := 1) (.int .i64 (cl s 1)) rfl (by kernel_rfl) (by kernel_rfl) (by kernel_rfl) (fun _ _ _ h => h) rfl hS (fun W hW => ex_get rfl (by simp [go_sem, Act.put, hsz, s5]) hW.at0 G1.out) ?_
      refine h_call (i := 2) 32 #[.int .i64 (cl s 1), .int .i64 1, .int .i64 127] rfl (by kernel_rfl) rfl (by simp [execOp, go_sem, Act.put, hsz]) ((HBt.out _).mono ?_)
      rintro r v ⟨rfl, rfl⟩
      refine ⟨_, rfl, hS, ?_⟩
      cases hb : adB (cl s 1)
      · refine h_take (i := 3) (.bool true) rfl (by kernel_rfl) (by kernel_rfl) (by kernel_rfl) (fun _ _ _ h => h) rfl hS (fun W hW => by simp [execOp, go_sem, Act.put, hsz, s5]) ?_
        refine h_take (i := 4) (.bool true) rfl (by kernel_rfl) (by kernel_rfl) (by kernel_rfl) (fun _ _ _ h => h) rfl hS (fun W hW => by simp [execOp, go_sem, Act.put, hsz, s5]) ?_
        refine g_pass (i := 5) rfl (by kernel_rfl) (by kernel_rfl) (by kernel_rfl) (fun _ _ _ h => h) (unwanted_of 4 false 40 rfl (by kernel_rfl) (by simp [Act.put, hsz])) hS ?_
        refine g_pass (i := 6) rfl (by kernel_rfl) (by kernel_rfl) (by kernel_rfl) (fun _ _ _ h => h) (unwanted_of 4 false 40 rfl (by kernel_rfl) (by simp [Act.put, hsz])) hS ?_
        refine g_pass (i := 7) rfl (by kernel_rfl) (by kernel_rfl) (by kernel_rfl) (fun _ _ _ h => h) (unwanted_of 4 false 40 rfl (by kernel_rfl) (by simp [Act.put, hsz])) hS ?_
        refine g_pass (i := 8) rfl (by kernel_rfl) (by kernel_rfl) (by kernel_rfl) (fun _ _ _ h => h) (unwanted_of 4 false 40 rfl (by kernel_rfl) (by simp [Act.put, hsz])) hS ?_
        refine h_take (i := 9) (.bool true) rfl (by kernel_rfl) (by kernel_rfl) (by kernel_rfl) (fun _ _ _ h => h) rfl hS (fun W hW => by simp [execOp, go_sem, Act.put, hsz, s5]) ?_
        refine h_take (i := 10) (.bool true) rfl (by kernel_rfl) (by kernel_rfl) (by kernel_rfl) (fun _ _ _ h => h) rfl hS (fun W hW => by simp [execOp, go_sem, Act.put, hsz, s5]) ?_
        refine g_pass (i := 11) rfl (by kernel_rfl) (by kernel_rfl) (by kernel_rfl) (fun _ _ _ h => h) (unwanted_of 10 false 46 rfl (by kernel_rfl) (by simp [Act.put, hsz])) hS ?_
        refine g_pass (i := 12) rfl (by kernel_rfl) (by kernel_rfl) (by kernel_rfl) (fun _ _ _ h => h) (unwanted_of 10 false 46 rfl (by kernel_rfl) (by simp [Act.put, hsz])) hS ?_
        refine g_pass (i := 13) rfl (by kernel_rfl) (by kernel_rfl) (by kernel_rfl) (fun _ _ _ h => h) (unwanted_of 10 false 46 rfl (by kernel_rfl) (by simp [Act.put, hsz])) hS ?_
        refine g_pass (i := 14) rfl (by kernel_rfl) (by kernel_rfl) (by kernel_rfl) (fun _ _ _ h => h) (unwanted_of 10 false 46 rfl (by kernel_rfl) (by simp [Act.put, hsz])) hS ?_
        refine h_take (i := 15) (.bool true) rfl (by kernel_rfl) (by kernel_rfl) (by kernel_rfl) (fun _ _ _ h => h) rfl hS (fun W hW => by simp [execOp, go_sem, Act.put, hsz, s5]) ?_
        refine h_take (i := 16) (.bool true) rfl (by kernel_rfl) (by kernel_rfl) (by kernel_rfl) (fun _ _ _ h => h) rfl hS (fun W hW => by simp [execOp, go_sem, Act.put, hsz, s5]) ?_
        refine g_pass (i := 17) rfl (by kernel_rfl) (by kernel_rfl) (by kernel_rfl) (fun _ _ _ h => h) (unwanted_of 16 false 52 rfl (by kernel_rfl) (by simp [Act.put, hsz])) hS ?_
        refine g_pass (i := 19) rfl (by kernel_rfl) (by kernel_rfl) (by kernel_rfl) (fun _ _ _ h => h) (unwanted_of 16 false 52 rfl (by kernel_rfl) (by simp [Act.put, hsz])) hS ?_
        refine g_pass (i := 20) rfl (by kernel_rfl) (by kernel_rfl) (by kernel_rfl) (fun _ _ _ h => h) (unwanted_of 16 false 52 rfl (by kernel_rfl) (by simp [Act.put, hsz])) hS ?_
        refine g_pass (i := 21) rfl (by kernel_rfl) (by kernel_rfl) (by kernel_rfl) (fun _ _ _ h => h) (unwanted_of 16 false 52 rfl (by kernel_rfl) (by simp [Act.put, hsz])) hS ?_
        refine g_none (i := 18) rfl (by kernel_rfl) (unwanted_of 16 false 52 rfl (by kernel_rfl) (by simp [Act.put, hsz])) hS ?_
        refine g_pass (i := 22) rfl (by kernel_rfl) (by kernel_rfl) (by kernel_rfl) (fun _ _ _ h => h) (unwanted_of 16 false 52 rfl (by kernel_rfl) (by simp [Act.put, hsz])) hS ?_
        refine h_take (i := 23) (.bool true) rfl (by kernel_rfl) (by kernel_rfl) (by kernel_rfl) (fun _ _ _ h => h) rfl hS (fun W hW => by simp [execOp, go_sem, Act.put, hsz, s5]) ?_
        refine wpAnyH_done (by kernel_rfl) ?_ _
        subst ha0
        clear hsz s5
        go_simp
        repeat' (first | go_values | go_skip | go_guarded | go_step | go_upon | (simp only [Int.not_lt, Int.not_le] at *; go_simp))
        go_meet
        case rel => exact ⟨by rw [hb]; rfl, hS⟩
      · refine h_take (i := 3) (.bool false) rfl (by kernel_rfl) (by kernel_rfl) (by kernel_rfl) (fun _ _ _ h => h) rfl hS (fun W hW => by simp [execOp, go_sem, Act.put, hsz, s5]) ?_
        refine h_take (i := 4) (.bool false) rfl (by kernel_rfl) (by kernel_rfl) (by kernel_rfl) (fun _ _ _ h => h) rfl hS (fun W hW => by simp [execOp, go_sem, Act.put, hsz, s5]) ?_
        refine g_take (i := 5) (.pointer (some ⟨zs, 2, none⟩)) rfl (by kernel_rfl) (by kernel_rfl) (by kernel_rfl) (fun _ _ _ h => h) (wanted_of 4 false 40 rfl (by kernel_rfl) (by simp [Act.put, hsz])) hS (fun W hW => by simp [execOp, go_sem, Act.put, hsz, s5]) ?_
        refine g_take (i := 6) (.pointer (some ⟨zs, 2, none⟩)) rfl (by kernel_rfl) (by kernel_rfl) (by kernel_rfl) (fun _ _ _ h => h) (wanted_of 4 false 40 rfl (by kernel_rfl) (by simp [Act.put, hsz])) hS (fun W hW => by simp [execOp, go_sem, Act.put, hsz, s5]) ?_
        refine g_take (i := 7) (.int .i64 (cl s 2)) rfl (by kernel_rfl) (by kernel_rfl) (by kernel_rfl) (fun _ _ _ h => h) (wanted_of 4 false 40 rfl (by kernel_rfl) (by simp [Act.put, hsz])) hS (fun W hW => ex_get rfl (by simp [go_sem, Act.put, hsz, s5]) hW.at0 G2.out) ?_
        cases h2 : (cl s 2 != 0)
        · refine g_take (i := 8) (.bool false) rfl (by kernel_rfl) (by kernel_rfl) (by kernel_rfl) (fun _ _ _ h => h) (wanted_of 4 false 40 rfl (by kernel_rfl) (by simp [Act.put, hsz])) hS (fun W hW => by simp [execOp, go_sem, Act.put, hsz, s5, h2]) ?_
          refine h_take (i := 9) (.bool false) rfl (by kernel_rfl) (by kernel_rfl) (by kernel_rfl) (fun _ _ _ h => h) rfl hS (fun W hW => by simp [execOp, go_sem, Act.put, hsz, s5]) ?_
          refine h_take (i := 10) (.bool false) rfl (by kernel_rfl) (by kernel_rfl) (by kernel_rfl) (fun _ _ _ h => h) rfl hS (fun W hW => by simp [execOp, go_sem, Act.put, hsz, s5]) ?_
          refine g_take (i := 11) (.pointer (some ⟨zs, 2, none⟩)) rfl (by kernel_rfl) (by kernel_rfl) (by kernel_rfl) (fun _ _ _ h => h) (wanted_of 10 false 46 rfl (by kernel_rfl) (by simp [Act.put, hsz])) hS (fun W hW => by simp [execOp, go_sem, Act.put, hsz, s5]) ?_
          refine g_take (i := 12) (.pointer (some ⟨zs, 3, none⟩)) rfl (by kernel_rfl) (by kernel_rfl) (by kernel_rfl) (fun _ _ _ h => h) (wanted_of 10 false 46 rfl (by kernel_rfl) (by simp [Act.put, hsz])) hS (fun W hW => by simp [execOp, go_sem, Act.put, hsz, s5]) ?_
          refine g_take (i := 13) (.int .i64 (cl s 3)) rfl (by kernel_rfl) (by kernel_rfl) (by kernel_rfl) (fun _ _ _ h => h) (wanted_of 10 false 46 rfl (by kernel_rfl) (by simp [Act.put, hsz])) hS (fun W hW => ex_get rfl (by simp [go_sem, Act.put, hsz, s5]) hW.at0 G3.out) ?_
          cases h3 : (cl s 3 == 0)
          · refine g_take (i := 14) (.bool false) rfl (by kernel_rfl) (by kernel_rfl) (by kernel_rfl) (fun _ _ _ h => h) (wanted_of 10 false 46 rfl (by kernel_rfl) (by simp [Act.put, hsz])) hS (fun W hW => by simp [execOp, go_sem, Act.put, hsz, s5, h3]) ?_
            refine h_take (i := 15) (.bool false) rfl (by kernel_rfl) (by kernel_rfl) (by kernel_rfl) (fun _ _ _ h => h) rfl hS (fun W hW => by simp [execOp, go_sem, Act.put, hsz, s5]) ?_
            refine h_take (i := 16) (.bool false) rfl (by kernel_rfl) (by kernel_rfl) (by kernel_rfl) (fun _ _ _ h => h) rfl hS (fun W hW => by simp [execOp, go_sem, Act.put, hsz, s5]) ?_
            refine g_take (i := 17) (ag s) rfl (by kernel_rfl) (by kernel_rfl) (by kernel_rfl) (fun _ _ _ h => h) (wanted_of 16 false 52 rfl (by kernel_rfl) (by simp [Act.put, hsz])) hS (fun W hW => ex_load rfl row_slot (by simp [go_sem, Act.put, hsz, s5]) hW.at0 HE.out HC.out) ?_
            refine g_take (i := 19) (.pointer (some ⟨zs, 0, none⟩)) rfl (by kernel_rfl) (by kernel_rfl) (by kernel_rfl) (fun _ _ _ h => h) (wanted_of 16 false 52 rfl (by kernel_rfl) (by simp [Act.put, hsz])) hS (fun W hW => by simp [execOp, go_sem, Act.put, hsz, s5]) ?_
            refine g_take (i := 20) (.int .i64 (cl s 0)) rfl (by kernel_rfl) (by kernel_rfl) (by kernel_rfl) (fun _ _ _ h => h) (wanted_of 16 false 52 rfl (by kernel_rfl) (by simp [Act.put, hsz])) hS (fun W hW => ex_get rfl (by simp [go_sem, Act.put, hsz, s5]) hW.at0 G0.out) ?_
            refine g_take (i := 21) (.bool (cl s 0 == 3)) rfl (by kernel_rfl) (by kernel_rfl) (by kernel_rfl) (fun _ _ _ h => h) (wanted_of 16 false 52 rfl (by kernel_rfl) (by simp [Act.put, hsz])) hS (fun W hW => by simp [execOp, go_sem, Act.put, hsz, s5]) ?_
            refine g_call (i := 18) 83 #[ag s, .int .i64 2, .int .i64 31] rfl (by kernel_rfl) (wanted_of 16 false 52 rfl (by kernel_rfl) (by simp [Act.put, hsz])) (by simp [execOp, go_sem, Act.put, hsz]) ((HEn.out _).mono ?_)
            rintro r v ⟨rfl, hv⟩
            replace hS := hS.call hv
            refine ⟨_, rfl, hS, ?_⟩
            refine g_take (i := 22) (.bool (hh != (cl s 0 == 3))) rfl (by kernel_rfl) (by kernel_rfl) (by kernel_rfl) (fun _ _ _ h => h) (wanted_of 16 false 52 rfl (by kernel_rfl) (by simp [Act.put, hsz])) hS (fun W hW => by simp [execOp, go_sem, Act.put, hsz, s5]; cases hh <;> cases (cl s 0 == 3) <;> rfl) ?_
            refine h_take (i := 23) (.bool (hh != (cl s 0 == 3))) rfl (by kernel_rfl) (by kernel_rfl) (by kernel_rfl) (fun _ _ _ h => h) rfl hS (fun W hW => by simp [execOp, go_sem, Act.put, hsz, s5]) ?_
            refine wpAnyH_done (by kernel_rfl) ?_ _
            subst ha0
            clear hsz s5
            go_simp
            repeat' (first | go_values | go_skip | go_guarded | go_step | go_upon | (simp only [Int.not_lt, Int.not_le] at *; go_simp))
            go_meet
            case rel => exact ⟨by rw [hb, h2, h3]; cases hh <;> cases (cl s 0 == 3) <;> rfl, hS⟩
          · refine g_take (i := 14) (.bool true) rfl (by kernel_rfl) (by kernel_rfl) (by kernel_rfl) (fun _ _ _ h => h) (wanted_of 10 false 46 rfl (by kernel_rfl) (by simp [Act.put, hsz])) hS (fun W hW => by simp [execOp, go_sem, Act.put, hsz, s5, h3]) ?_
            refine h_take (i := 15) (.bool true) rfl (by kernel_rfl) (by kernel_rfl) (by kernel_rfl) (fun _ _ _ h => h) rfl hS (fun W hW => by simp [execOp, go_sem, Act.put, hsz, s5]) ?_
            refine h_take (i := 16) (.bool true) rfl (by kernel_rfl) (by kernel_rfl) (by kernel_rfl) (fun _ _ _ h => h) rfl hS (fun W hW => by simp [execOp, go_sem, Act.put, hsz, s5]) ?_
            refine g_pass (i := 17) rfl (by kernel_rfl) (by kernel_rfl) (by kernel_rfl) (fun _ _ _ h => h) (unwanted_of 16 false 52 rfl (by kernel_rfl) (by simp [Act.put, hsz])) hS ?_
            refine g_pass (i := 19) rfl (by kernel_rfl) (by kernel_rfl) (by kernel_rfl) (fun _ _ _ h => h) (unwanted_of 16 false 52 rfl (by kernel_rfl) (by simp [Act.put, hsz])) hS ?_
            refine g_pass (i := 20) rfl (by kernel_rfl) (by kernel_rfl) (by kernel_rfl) (fun _ _ _ h => h) (unwanted_of 16 false 52 rfl (by kernel_rfl) (by simp [Act.put, hsz])) hS ?_
            refine g_pass (i := 21) rfl (by kernel_rfl) (by kernel_rfl) (by kernel_rfl) (fun _ _ _ h => h) (unwanted_of 16 false 52 rfl (by kernel_rfl) (by simp [Act.put, hsz])) hS ?_
            refine g_none (i := 18) rfl (by kernel_rfl) (unwanted_of 16 false 52 rfl (by kernel_rfl) (by simp [Act.put, hsz])) hS ?_
            refine g_pass (i := 22) rfl (by kernel_rfl) (by kernel_rfl) (by kernel_rfl) (fun _ _ _ h => h) (unwanted_of 16 false 52 rfl (by kernel_rfl) (by simp [Act.put, hsz])) hS ?_
            refine h_take (i := 23) (.bool true) rfl (by kernel_rfl) (by kernel_rfl) (by kernel_rfl) (fun _ _ _ h => h) rfl hS (fun W hW => by simp [execOp, go_sem, Act.put, hsz, s5]) ?_
            refine wpAnyH_done (by kernel_rfl) ?_ _
            subst ha0
            clear hsz s5
            go_simp
            repeat' (first | go_values | go_skip | go_guarded | go_step | go_upon | (simp only [Int.not_lt, Int.not_le] at *; go_simp))
            go_meet
            case rel => exact ⟨by rw [hb, h2, h3]; rfl, hS⟩
        · refine g_take (i := 8) (.bool true) rfl (by kernel_rfl) (by kernel_rfl) (by kernel_rfl) (fun _ _ _ h => h) (wanted_of 4 false 40 rfl (by kernel_rfl) (by simp [Act.put, hsz])) hS (fun W hW => by simp [execOp, go_sem, Act.put, hsz, s5, h2]) ?_
          refine h_take (i := 9) (.bool true) rfl (by kernel_rfl) (by kernel_rfl) (by kernel_rfl) (fun _ _ _ h => h) rfl hS (fun W hW => by simp [execOp, go_sem, Act.put, hsz, s5]) ?_
          refine h_take (i := 10) (.bool true) rfl (by kernel_rfl) (by kernel_rfl) (by kernel_rfl) (fun _ _ _ h => h) rfl hS (fun W hW => by simp [execOp, go_sem, Act.put, hsz, s5]) ?_
          refine g_pass (i := 11) rfl (by kernel_rfl) (by kernel_rfl) (by kernel_rfl) (fun _ _ _ h => h) (unwanted_of 10 false 46 rfl (by kernel_rfl) (by simp [Act.put, hsz])) hS ?_
          refine g_pass (i := 12) rfl (by kernel_rfl) (by kernel_rfl) (by kernel_rfl) (fun _ _ _ h => h) (unwanted_of 10 false 46 rfl (by kernel_rfl) (by simp [Act.put, hsz])) hS ?_
          refine g_pass (i := 13) rfl (by kernel_rfl) (by kernel_rfl) (by kernel_rfl) (fun _ _ _ h => h) (unwanted_of 10 false 46 rfl (by kernel_rfl) (by simp [Act.put, hsz])) hS ?_
          refine g_pass (i := 14) rfl (by kernel_rfl) (by kernel_rfl) (by kernel_rfl) (fun _ _ _ h => h) (unwanted_of 10 false 46 rfl (by kernel_rfl) (by simp [Act.put, hsz])) hS ?_
          refine h_take (i := 15) (.bool true) rfl (by kernel_rfl) (by kernel_rfl) (by kernel_rfl) (fun _ _ _ h => h) rfl hS (fun W hW => by simp [execOp, go_sem, Act.put, hsz, s5]) ?_
          refine h_take (i := 16) (.bool true) rfl (by kernel_rfl) (by kernel_rfl) (by kernel_rfl) (fun _ _ _ h => h) rfl hS (fun W hW => by simp [execOp, go_sem, Act.put, hsz, s5]) ?_
          refine g_pass (i := 17) rfl (by kernel_rfl) (by kernel_rfl) (by kernel_rfl) (fun _ _ _ h => h) (unwanted_of 16 false 52 rfl (by kernel_rfl) (by simp [Act.put, hsz])) hS ?_
          refine g_pass (i := 19) rfl (by kernel_rfl) (by kernel_rfl) (by kernel_rfl) (fun _ _ _ h => h) (unwanted_of 16 false 52 rfl (by kernel_rfl) (by simp [Act.put, hsz])) hS ?_
          refine g_pass (i := 20) rfl (by kernel_rfl) (by kernel_rfl) (by kernel_rfl) (fun _ _ _ h => h) (unwanted_of 16 false 52 rfl (by kernel_rfl) (by simp [Act.put, hsz])) hS ?_
          refine g_pass (i := 21) rfl (by kernel_rfl) (by kernel_rfl) (by kernel_rfl) (fun _ _ _ h => h) (unwanted_of 16 false 52 rfl (by kernel_rfl) (by simp [Act.put, hsz])) hS ?_
          refine g_none (i := 18) rfl (by kernel_rfl) (unwanted_of 16 false 52 rfl (by kernel_rfl) (by simp [Act.put, hsz])) hS ?_
          refine g_pass (i := 22) rfl (by kernel_rfl) (by kernel_rfl) (by kernel_rfl) (fun _ _ _ h => h) (unwanted_of 16 false 52 rfl (by kernel_rfl) (by simp [Act.put, hsz])) hS ?_
          refine h_take (i := 23) (.bool true) rfl (by kernel_rfl) (by kernel_rfl) (by kernel_rfl) (fun _ _ _ h => h) rfl hS (fun W hW => by simp [execOp, go_sem, Act.put, hsz, s5]) ?_
          refine wpAnyH_done (by kernel_rfl) ?_ _
          subst ha0
          clear hsz s5
          go_simp
          repeat' (first | go_values | go_skip | go_guarded | go_step | go_upon | (simp only [Int.not_lt, Int.not_le] at *; go_simp))
          go_meet
          case rel => exact ⟨by rw [hb, h2]; rfl, hS⟩
    case rest =>
    obtain ⟨rfl, HM⟩ := hcut
    clear hM HBt HEn
    rename World => u
    have hM := HM.out
    clear HM
    generalize (((adB (cl s 1) && !(cl s 2 != 0)) && !(cl s 3 == 0)) && !(hh != (cl s 0 == 3))) = bb at *
    cases bb
    · have HQ3 : Hid (4 = q) := if_bad HQ2.out (by rw [HRB.out]; rfl)
      clear HQ2 HRB
      repeat' (first | go_values | go_skip | go_guarded | go_step | go_upon | (simp only [Int.not_lt, Int.not_le] at *; go_simp))
      go_ret
      rw [← HQ3.out]
      exact ⟨rfl, hM.below⟩
    rw [Bool.not_true]
    rw [Bool.true_and] at HRB
    obtain ⟨q2, hq2⟩ : ∃ q2, allF 32 (fun j => eok (en s j) (mk s j)) 0 = q2 := ⟨_, rfl⟩
    have HQ0 : Hid (allF 32 (fun j => eok (en s j) (mk s j)) 0 = q2) := hq2
    rw [hq2] at HRB
    clear hq2
    have HB03 : Hid (∀ j u, Calls Try.prog 32 #[.int .i64 (cl s (2 + j)), .int .i64 0, .int .i64 3] u fun e w' => e = .returned (.bool (decide (0 ≤ cl s (2 + j)) && decide (cl s (2 + j) ≤ 3))) ∧ u = w') := fun j => between_any _ _ _
    have HB65 : Hid (∀ j u, Calls Try.prog 32 #[.int .i64 (cl s (34 + j)), .int .i64 0, .int .i64 65535] u fun e w' => e = .returned (.bool (decide (0 ≤ cl s (34 + j)) && decide (cl s (34 + j) ≤ 65535))) ∧ u = w') := fun j => between_any _ _ _
    repeat' (first | go_values | go_skip | go_guarded | go_step | go_upon | (simp only [Int.not_lt, Int.not_le] at *; go_simp))
    go_loopw [6, 60] (fun _ i wi => ∃ j : Nat, j ≤ 32 ∧ i = .int .i64 (j : Int) ∧ u = wi ∧ Hid (allF 32 (fun j => eok (en s j) (mk s j)) j = q2)) (fun _ i _ => 32 - (intOf i).toNat)
    case atStart => exact ⟨0, by omega, rfl, rfl, HQ0.out⟩
    case round =>
      obtain ⟨j, hj, rfl, rfl, HA⟩ := hrel
      clear HQ0
      by_cases hjt : ¬ j < 32
      · have HQ2t : Hid (true = q2) := by have := HA.out; rw [allF_end (by omega)] at this; exact this
        rw [← HQ2t.out, Bool.true_and] at HRB
        clear HA HB03 HB65
        obtain ⟨q3, hq3⟩ : ∃ q3, allF k (fun j => ad (sl B j) != ad s) 0 = q3 := ⟨_, rfl⟩
        have HQ0 : Hid (allF k (fun j => ad (sl B j) != ad s) 0 = q3) := hq3
        rw [hq3] at HRB
        clear hq3
        have hsl := run_sl zbd k hk
        have ej : decide ((j : Int) < 32) = false := decide_eq_false (by omega)
        clear hjt hj
        repeat' (first | go_values | go_skip | go_guarded | go_step | go_upon | (simp only [Int.not_lt, Int.not_le] at *; go_simp))
        clear hsl ej
        have HM : Hid (Mm w u [(zs, 38, s), (zn, 38, z66), (zbd, 41, F)]) := hM
        clear hM
        go_loopw [8, 96] (fun _ i wi => ∃ j : Nat, j ≤ k ∧ i = .int .i64 (j : Int) ∧ Hid (allF k (fun j => ad (sl B j) != ad s) j = q3 ∧ Mm w wi [(zs, 38, s), (zn, 38, z66), (zbd, 41, F)])) (fun _ i _ => k - (intOf i).toNat)
        case atStart => exact ⟨0, by omega, rfl, HQ0.out, HM.out⟩
        case round =>
          obtain ⟨j, hj, rfl, HA⟩ := hrel
          clear HQ0 HM
          have hM := HA.out.2
          by_cases hjt : ¬ j < k
          · have HQ3t : Hid (true = q3) := by have := HA.out.1; rw [allF_end (by omega)] at this; exact this
            have HQ4 : Hid ((if allF 9 (refAt B) (k + 1) = true then (0 : Int) else 4) = q) := if_ok HQ2.out (by rw [HRB.out, ← HQ3t.out])
            clear HA HQ2 HRB
            repeat' (first | go_values | go_skip | go_guarded | go_step | go_upon | (simp only [Int.not_lt, Int.not_le] at *; go_simp))
            go_roundw
            case rel => exact ⟨k + 1, by omega, by go_num, HQ4.out, hM.tail⟩
            case measure => simp [intOf]; omega
          have hjt : j < k := by omega
          have HS := HA.out.1
          rw [allF_step hjt] at HS
          have HSt : Hid (((ad (sl B j) != ad s) && allF k (fun j => ad (sl B j) != ad s) (j + 1)) = q3) := HS
          have HSCj : Hid (cut F (j * 66) 66 = sl B j) := by show _ = _; rw [← HF.out]; exact fl_cut HW.out (by omega)
          have HSEj : Hid (j * 66 + 66 ≤ F.length) := by show _ ≤ _; rw [← HF.out, HW.out.length]; omega
          have HLj : Hid ((sl B j).length = 66) := HW.out.sl (by omega)
          have HD : Hid ((ad (sl B j) != ad s) = !(cl (sl B j) 1 == cl s 1)) := rfl
          clear HA HS
          generalize (ad (sl B j) != ad s) = dd at *
          generalize sl B j = t at *
          have Gj : Hid (t[1]? = some (cl t 1)) := cl_at (by rw [HLj.out]; omega)
          cases hd : (cl t 1 == cl s 1)
          · have HS2 : Hid (allF k (fun j => ad (sl B j) != ad s) (j + 1) = q3) := by show _ = _; rw [← HSt.out, HD.out, hd]; rfl
            clear HSt HD
            repeat' (first | (go_big_may; first | (refine a_load rfl rfl row_slot rfl hM.at2 HSEj.out HSCj.out ?_) | (refine a_alloc rfl zer_slot rfl ?_; intro u zt hN; replace hM := hM.new hN; clear hN) | (refine a_fill rfl rfl row_slot rfl rfl hM.at0 HLj.out List.length_replicate ?_; intro u hv hc; replace hM := hM.put0 hc hv; clear hv hc) | (refine a_get rfl rfl rfl hM.at0 Gj.out ?_) | (refine a_get rfl rfl rfl hM.at1 G1.out ?_)) | go_values | go_skip | go_guarded | go_step | go_upon | (simp only [Int.not_lt, Int.not_le] at *; go_simp))
            go_roundw
            case rel => exact ⟨j + 1, by omega, by go_num, HS2.out, hM.tail⟩
            case measure => simp [intOf]; omega
          · have HQ4 : Hid (4 = q) := if_bad HQ2.out (by rw [HRB.out, ← HSt.out, HD.out, hd]; rfl)
            clear HSt HD HQ2 HRB
            repeat' (first | (go_big_may; first | (refine a_load rfl rfl row_slot rfl hM.at2 HSEj.out HSCj.out ?_) | (refine a_alloc rfl zer_slot rfl ?_; intro u zt hN; replace hM := hM.new hN; clear hN) | (refine a_fill rfl rfl row_slot rfl rfl hM.at0 HLj.out List.length_replicate ?_; intro u hv hc; replace hM := hM.put0 hc hv; clear hv hc) | (refine a_get rfl rfl rfl hM.at0 Gj.out ?_) | (refine a_get rfl rfl rfl hM.at1 G1.out ?_)) | go_values | go_skip | go_guarded | go_step | go_upon | (simp only [Int.not_lt, Int.not_le] at *; go_simp))
            go_ret
            rw [← HQ4.out]
            exact ⟨rfl, hM.below⟩
      have hjt : j < 32 := by omega
      have GE : Hid (s[2 + j]? = some (cl s (2 + j))) := cl_at (by rw [HSL.out]; omega)
      have GM : Hid (s[34 + j]? = some (cl s (34 + j))) := cl_at (by rw [HSL.out]; omega)
      have HS := HA.out
      rw [allF_step hjt] at HS
      have HEQ : Hid (eok (en s j) (mk s j) = ((decide (0 ≤ cl s (2 + j)) && decide (cl s (2 + j) ≤ 3)) && ((decide (0 ≤ cl s (34 + j)) && decide (cl s (34 + j) ≤ 65535)) && !((cl s (2 + j) == 0) && (cl s (34 + j) != 0))))) := eok_ref _ _
      have HSt : Hid ((eok (en s j) (mk s j) && allF 32 (fun j => eok (en s j) (mk s j)) (j + 1)) = q2) := HS
      have H1 : Hid (∀ u, Calls Try.prog 32 #[.int .i64 (cl s (2 + j)), .int .i64 0, .int .i64 3] u fun e w' => e = .returned (.bool (decide (0 ≤ cl s (2 + j)) && decide (cl s (2 + j) ≤ 3))) ∧ u = w') := HB03.out j
      have H2 : Hid (∀ u, Calls Try.prog 32 #[.int .i64 (cl s (34 + j)), .int .i64 0, .int .i64 65535] u fun e w' => e = .returned (.bool (decide (0 ≤ cl s (34 + j)) && decide (cl s (34 + j) ≤ 65535))) ∧ u = w') := HB65.out j
      clear HA HS HB03 HB65
      generalize eok (en s j) (mk s j) = ok at *
      generalize (decide (0 ≤ cl s (2 + j)) && decide (cl s (2 + j) ≤ 3)) = b1 at *
      generalize (decide (0 ≤ cl s (34 + j)) && decide (cl s (34 + j) ≤ 65535)) = b2 at *
      go_upto_region 16 with (fail)
      go_cut [90] from 61 to 91 (fun bv wx => bv = .bool (!ok) ∧ u = wx)
      case first =>
        cases b1
        · repeat' (first | (go_big_may; first | (refine a_get rfl rfl rfl hM.at0 GE.out ?_)) | go_values | go_skip | go_guarded | go_step | go_upon | (simp only [Int.not_lt, Int.not_le] at *; go_simp))
          refine (H1.out _).mono ?_
          rintro r v ⟨rfl, rfl⟩
          repeat' (first | go_values | go_skip | go_guarded | go_step | go_upon | (simp only [Int.not_lt, Int.not_le] at *; go_simp))
          go_meet
          case rel => exact ⟨by rw [HEQ.out]; rfl, rfl⟩
        · cases b2
          · repeat' (first | (go_big_may; first | (refine a_get rfl rfl rfl hM.at0 GE.out ?_)) | go_values | go_skip | go_guarded | go_step | go_upon | (simp only [Int.not_lt, Int.not_le] at *; go_simp))
            refine (H1.out _).mono ?_
            rintro r v ⟨rfl, rfl⟩
            repeat' (first | (go_big_may; first | (refine a_get rfl rfl rfl hM.at0 GM.out ?_)) | go_values | go_skip | go_guarded | go_step | go_upon | (simp only [Int.not_lt, Int.not_le] at *; go_simp))
            refine (H2.out _).mono ?_
            rintro r v ⟨rfl, rfl⟩
            repeat' (first | go_values | go_skip | go_guarded | go_step | go_upon | (simp only [Int.not_lt, Int.not_le] at *; go_simp))
            go_meet
            case rel => exact ⟨by rw [HEQ.out]; rfl, rfl⟩
          · cases h0 : (cl s (2 + j) == 0)
            · repeat' (first | (go_big_may; first | (refine a_get rfl rfl rfl hM.at0 GE.out ?_)) | go_values | go_skip | go_guarded | go_step | go_upon | (simp only [Int.not_lt, Int.not_le] at *; go_simp))
              refine (H1.out _).mono ?_
              rintro r v ⟨rfl, rfl⟩
              repeat' (first | (go_big_may; first | (refine a_get rfl rfl rfl hM.at0 GM.out ?_)) | go_values | go_skip | go_guarded | go_step | go_upon | (simp only [Int.not_lt, Int.not_le] at *; go_simp))
              refine (H2.out _).mono ?_
              rintro r v ⟨rfl, rfl⟩
              repeat' (first | (go_big_may; first | (refine a_get rfl rfl rfl hM.at0 GE.out ?_)) | go_values | go_skip | go_guarded | go_step | go_upon | (simp only [Int.not_lt, Int.not_le] at *; go_simp))
              go_meet
              case rel => exact ⟨by rw [HEQ.out, h0]; rfl, rfl⟩
            · repeat' (first | (go_big_may; first | (refine a_get rfl rfl rfl hM.at0 GE.out ?_)) | go_values | go_skip | go_guarded | go_step | go_upon | (simp only [Int.not_lt, Int.not_le] at *; go_simp))
              refine (H1.out _).mono ?_
              rintro r v ⟨rfl, rfl⟩
              repeat' (first | (go_big_may; first | (refine a_get rfl rfl rfl hM.at0 GM.out ?_)) | go_values | go_skip | go_guarded | go_step | go_upon | (simp only [Int.not_lt, Int.not_le] at *; go_simp))
              refine (H2.out _).mono ?_
              rintro r v ⟨rfl, rfl⟩
              repeat' (first | (go_big_may; first | (refine a_get rfl rfl rfl hM.at0 GE.out ?_) | (refine a_get rfl rfl rfl hM.at0 GM.out ?_)) | go_values | go_skip | go_guarded | go_step | go_upon | (simp only [Int.not_lt, Int.not_le] at *; go_simp))
              go_meet
              case rel => exact ⟨by rw [HEQ.out, h0]; simp, rfl⟩
      case rest =>
      obtain ⟨rfl, rfl⟩ := hcut
      clear H1 H2 HEQ
      cases ok
      · have HQ3 : Hid (4 = q) := if_bad HQ2.out (by rw [HRB.out, ← HSt.out]; rfl)
        clear HQ2 HRB HSt
        repeat' (first | go_values | go_skip | go_guarded | go_step | go_upon | (simp only [Int.not_lt, Int.not_le] at *; go_simp))
        go_ret
        rw [← HQ3.out]
        exact ⟨rfl, hM.below⟩
      · rw [Bool.true_and] at HSt
        repeat' (first | go_values | go_skip | go_guarded | go_step | go_upon | (simp only [Int.not_lt, Int.not_le] at *; go_simp))
        go_roundw
        case rel => exact ⟨j + 1, by omega, by go_num, trivial, HSt.out⟩
        case measure => simp [intOf]; omega
end Go.Proofs.Ythjmcopknkemnaa.slots

/- a board as an argument, a command, and a slice of commands: what their cells hold. -/
namespace Go.Proofs.Ythjmcopknkemnaa.slots
open Go.ChangeShapes Go.WideShapes Go.ChangeAt Go.RowKit Go.Deep
set_option linter.unusedVariables false
set_option maxRecDepth 10000

theorem laid_out : laidOutB Try.prog = true := by kernel_rfl
theorem int_cells : Try.prog.cellsOf 3 = 1 := by kernel_rfl
theorem ends_cells : Try.prog.cellsOf 36 = 32 := by kernel_rfl
theorem slot_cells : Try.prog.cellsOf 38 = 66 := by kernel_rfl
theorem slots_cells : Try.prog.cellsOf 39 = 594 := by kernel_rfl
theorem board_cells : Try.prog.cellsOf 41 = 594 := by kernel_rfl
theorem cmd_cells : Try.prog.cellsOf 23 = 4 := by kernel_rfl
def AllI (cs : List Value) : Prop := ∀ i, i < cs.length → ∃ x : Int, cs[i]? = some (.int .i64 x)
theorem AllI.list : ∀ {cs : List Value}, AllI cs → ∃ l : List Int, cs = l.map (Value.int .i64)
  | [], _ => ⟨[], rfl⟩
  | c :: r, h => by
    obtain ⟨x, hx⟩ := h 0 (by simp)
    obtain ⟨l, rfl⟩ := AllI.list (cs := r) (fun i hi => by simpa using h (i + 1) (by simpa using hi))
    simp at hx
    exact ⟨x :: l, by rw [hx]; rfl⟩
theorem AllI.at {cs : List Value} {k n : Nat} (h : AllI ((cs.drop k).take n)) (hk : k + n ≤ cs.length) (i : Nat) (h1 : k ≤ i) (h2 : i < k + n) : ∃ x : Int, cs[i]? = some (.int .i64 x) := by
  obtain ⟨x, hx⟩ := h (i - k) (by simp; omega)
  refine ⟨x, ?_⟩
  rw [List.getElem?_take, if_pos (by omega), List.getElem?_drop, show k + (i - k) = i by omega] at hx
  exact hx
section
variable {H : Type} {enc : TypeId × Value → H} {w : World} {base : Nat} {spare : Nat → Bool} {held : Bool}
theorem some_at {α : Type} {xs : List α} {i : Nat} (h : i < xs.length) : ∃ y, xs[i]? = some y := ⟨_, List.getElem?_eq_getElem h⟩
theorem open_ends {fuel : Nat} {cs : List Value} {x : DataW H × List MemPlace} (h : DataW.trod enc Try.prog w base spare held fuel 36 cs = some x) : AllI cs := by
  obtain ⟨xs, m, _, hx, hlen, hxl, hfs⟩ := DataW.trod_array Try.underlying36 h
  rw [ends_cells] at hlen
  intro i hi
  have g := hfs i (by omega)
  obtain ⟨y, hy⟩ := some_at (xs := xs) (i := i) (by omega)
  rw [hy, int_cells, Nat.mul_one] at g
  obtain ⟨k, e, _, _⟩ := DataW.trod_int Try.underlying3 g
  have := congrArg (fun l => l[0]?) e
  simp only [List.getElem?_take, List.getElem?_drop] at this
  exact ⟨k, by simpa using this⟩
theorem open_slot {fuel : Nat} {cs : List Value} {x : DataW H × List MemPlace} (h : DataW.trod enc Try.prog w base spare held fuel 38 cs = some x) : AllI cs := by
  obtain ⟨xs, m, _, hx, hlen, hxl, hfs⟩ := DataW.trod_struct Try.underlying38 h
  rw [slot_cells] at hlen
  match xs, hxl with
  | [y0, y1, y2, y3], _ =>
    have g0 : DataW.trod enc Try.prog w base spare held m 3 ((cs.drop 0).take (Try.prog.cellsOf 3)) = some y0 := hfs 0 _ rfl
    have g1 : DataW.trod enc Try.prog w base spare held m 3 ((cs.drop 1).take (Try.prog.cellsOf 3)) = some y1 := hfs 1 _ rfl
    have g2 : DataW.trod enc Try.prog w base spare held m 36 ((cs.drop 2).take (Try.prog.cellsOf 36)) = some y2 := hfs 2 _ rfl
    have g3 : DataW.trod enc Try.prog w base spare held m 36 ((cs.drop 34).take (Try.prog.cellsOf 36)) = some y3 := hfs 3 _ rfl
    rw [int_cells] at g0 g1
    rw [ends_cells] at g2 g3
    obtain ⟨k0, e0, _, _⟩ := DataW.trod_int Try.underlying3 g0
    obtain ⟨k1, e1, _, _⟩ := DataW.trod_int Try.underlying3 g1
    have a2 := open_ends g2
    have a3 := open_ends g3
    intro i hi
    by_cases j0 : i = 0
    · subst j0
      have := congrArg (fun l => l[0]?) e0
      simp only [List.getElem?_take, List.getElem?_drop] at this
      exact ⟨k0, by simpa using this⟩
    by_cases j1 : i = 1
    · subst j1
      have := congrArg (fun l => l[0]?) e1
      simp only [List.getElem?_take, List.getElem?_drop] at this
      exact ⟨k1, by simpa using this⟩
    by_cases j2 : i < 34
    · exact AllI.at (k := 2) (n := 32) a2 (by omega) i (by omega) (by omega)
    · exact AllI.at (k := 34) (n := 32) a3 (by omega) i (by omega) (by omega)
theorem open_slots {fuel : Nat} {cs : List Value} {x : DataW H × List MemPlace} (h : DataW.trod enc Try.prog w base spare held fuel 39 cs = some x) : AllI cs := by
  obtain ⟨xs, m, _, hx, hlen, hxl, hfs⟩ := DataW.trod_array Try.underlying39 h
  rw [slots_cells] at hlen
  intro i hi
  have g := hfs (i / 66) (by omega)
  obtain ⟨y, hy⟩ := some_at (xs := xs) (i := i / 66) (by omega)
  rw [hy, slot_cells] at g
  exact AllI.at (open_slot g) (by omega) i (by omega) (by omega)
theorem bd_open {r : Reach} {b0 : Nat} {v : Value} {x : DataW H} {p : List MemPlace} (hv : Value.okWide Try.prog w r b0 41 v) (h : DataW.Trod enc Try.prog w base spare held 41 v x p) : ∃ B : Bd, v = ag (fl B) ∧ Wf B := by
  obtain ⟨cs, rfl, hsz⟩ := okWide_struct Try.underlying41 hv
  rw [board_cells] at hsz
  obtain ⟨fuel, hf⟩ := h
  obtain ⟨xs, n, _, hx, hlen, hxl, hfs⟩ := DataW.trod_struct Try.underlying41 hf
  obtain ⟨l⟩ := cs
  have hl5 : l.length = 594 := hsz
  match xs, hxl with
  | [y0], _ =>
    have g0 : DataW.trod enc Try.prog w base spare held n 39 ((l.drop 0).take (Try.prog.cellsOf 39)) = some y0 := hfs 0 _ rfl
    rw [slots_cells] at g0
    have a0 := open_slots g0
    have e : (List.drop 0 l).take 594 = l := by rw [List.drop_zero, List.take_of_length_le (by omega)]
    have a1 : AllI l := by
      have : AllI ((List.drop 0 l).take 594) := a0
      rw [e] at this
      exact this
    obtain ⟨m, rfl⟩ := a1.list
    rw [List.length_map] at hl5
    exact ⟨toB m, by rw [fl_toB hl5]; rfl, toB_wf hl5⟩
theorem open_cmd {fuel : Nat} {cs : List Value} {x : DataW H × List MemPlace} (h : DataW.trod enc Try.prog w base spare held fuel 23 cs = some x) : ∃ k n e a : Int, cs = [.int .i64 k, .int .i64 n, .int .i64 e, .int .i64 a] ∧ (-9223372036854775808 ≤ n ∧ n ≤ 9223372036854775807) ∧ (-9223372036854775808 ≤ a ∧ a ≤ 9223372036854775807) ∧ (-9223372036854775808 ≤ k ∧ k ≤ 9223372036854775807) ∧ (-9223372036854775808 ≤ e ∧ e ≤ 9223372036854775807) := by
  obtain ⟨xs, n, _, hx, hlen, hxl, hfs⟩ := DataW.trod_struct Try.underlying23 h
  rw [cmd_cells] at hlen
  match cs, hlen with
  | [c0, c1, c2, c3], _ =>
    have g0 := hfs 0 _ rfl
    have g1 := hfs 1 _ rfl
    have g2 := hfs 2 _ rfl
    have g3 := hfs 3 _ rfl
    match xs, hxl with
    | [y0, y1, y2, y3], _ =>
      simp [int_cells] at g0 g1 g2 g3
      obtain ⟨k0, e0, _, f0⟩ := DataW.trod_int Try.underlying3 g0
      obtain ⟨k1, e1, _, f1⟩ := DataW.trod_int Try.underlying3 g1
      obtain ⟨k2, e2, _, f2⟩ := DataW.trod_int Try.underlying3 g2
      obtain ⟨k3, e3, _, f3⟩ := DataW.trod_int Try.underlying3 g3
      simp at e0 e1 e2 e3
      subst e0 e1 e2 e3
      exact ⟨k0, k1, k2, k3, rfl, bounds_i64 f1, bounds_i64 f3, bounds_i64 f0, bounds_i64 f2⟩
structure InB (k n e a : Int) : Prop where
  n1 : -9223372036854775808 ≤ n
  n2 : n ≤ 9223372036854775807
  a1 : -9223372036854775808 ≤ a
  a2 : a ≤ 9223372036854775807
  k1 : -9223372036854775808 ≤ k
  k2 : k ≤ 9223372036854775807
  e1 : -9223372036854775808 ≤ e
  e2 : e ≤ 9223372036854775807
theorem cm_open {r : Reach} {b0 : Nat} {v : Value} {x : DataW H} {p : List MemPlace} (hv : Value.okWide Try.prog w r b0 23 v) (h : DataW.Trod enc Try.prog w base spare held 23 v x p) : ∃ k n e a : Int, v = ag [k, n, e, a] ∧ InB k n e a := by
  obtain ⟨cs, rfl, hsz⟩ := okWide_struct Try.underlying23 hv
  obtain ⟨fuel, hf⟩ := h
  obtain ⟨k, n, e, a, hc, hn, ha, hk, he⟩ := open_cmd hf
  obtain ⟨l⟩ := cs
  simp only [Value.cells] at hc
  subst hc
  exact ⟨k, n, e, a, rfl, hn.1, hn.2, ha.1, ha.2, hk.1, hk.2, he.1, he.2⟩
end
end Go.Proofs.Ythjmcopknkemnaa.slots

/- slots: == of rows in a region that draws. -/
namespace Go.Proofs.Ythjmcopknkemnaa.slots
open Go Go.RowKit
set_option linter.unusedVariables false
set_option linter.unusedSimpArgs false
set_option maxRecDepth 100000

theorem ex_eql {o : Oper} {a : Act} {W : World} {t ty : TypeId} {x y : Operand} (ho : o.op = .binOp .eql t x y ty) {n : Nat} (hc : Cmp t n) {l m : List Int} (hx : a.eval x = ag l) (hy : a.eval y = ag m) (h1 : l.length = n) (h2 : m.length = n) :
    (execOp a.eval o).run Try.prog W = .ok (.value (.bool (decide (l = m)))) W := by
  have hr := (run_cmp hc h1 h2 x y W).1
  rw [Sem.run_bind] at hr
  unfold execOp
  simp only [ho, hx, hy, Sem.run_bind, hr, Result.andThen_ok, Sem.run_pure]
theorem ex_neq {o : Oper} {a : Act} {W : World} {t ty : TypeId} {x y : Operand} (ho : o.op = .binOp .neq t x y ty) {n : Nat} (hc : Cmp t n) {l m : List Int} (hx : a.eval x = ag l) (hy : a.eval y = ag m) (h1 : l.length = n) (h2 : m.length = n) :
    (execOp a.eval o).run Try.prog W = .ok (.value (.bool (!decide (l = m)))) W := by
  have hr := (run_cmp hc h1 h2 x y W).2
  rw [Sem.run_bind] at hr
  unfold execOp
  simp only [ho, hx, hy, Sem.run_bind, hr, Result.andThen_ok, Sem.run_pure]
end Go.Proofs.Ythjmcopknkemnaa.slots

/- slots, the document's answer: rows of numbers beside boxes; what Contains and leastFree answer. -/
namespace Go.Proofs.Ythjmcopknkemnaa.slots
open Go Go.RowKit
set_option linter.unusedVariables false
set_option linter.unusedSimpArgs false
set_option maxRecDepth 100000

/-- a slice that reads as these numbers -/
def Ris (w : World) (v : Value) (l : List Int) : Prop :=
  ∃ a c, v = .slice a l.length c ∧ l.length ≤ c ∧ c ≤ maxLen ∧ (0 < l.length → ∃ g off, a = some ⟨g, off, none⟩ ∧ g < w.heap.size ∧ ∀ j x, l[j]? = some x → w.cell? ⟨g, off + j, none⟩ = some (.int .i64 x))
theorem Ris.below {w u : World} {v : Value} {l : List Int} (h : Ris w v l) (hb : Below w.heap.size w u) : Ris u v l := by
  obtain ⟨a, c, hv, h1, h2, h4⟩ := h
  refine ⟨a, c, hv, h1, h2, fun hn => ?_⟩
  obtain ⟨g, off, ha, hg, hc⟩ := h4 hn
  exact ⟨g, off, ha, Nat.lt_of_lt_of_le hg hb.size, fun j x hx => (hb.cell (p := ⟨g, off + j, none⟩) hg).trans (hc j x hx)⟩
theorem Ris.form {w : World} {v : Value} {l : List Int} (h : Ris w v l) : ∃ a c, v = .slice a l.length c ∧ l.length ≤ c ∧ c ≤ maxLen := by
  obtain ⟨a, c, h, h1, h2, _⟩ := h; exact ⟨_, _, h, h1, h2⟩
theorem Ris.at {w : World} {a : Option Addr} {n c : Nat} {l : List Int} (h : Ris w (.slice a n c) l) (k : Nat) (x : Int) (hk : l[k]? = some x) : ∃ g off, a = some ⟨g, off, none⟩ ∧ w.cell? ⟨g, off + k, none⟩ = some (.int .i64 x) := by
  obtain ⟨a', c', hv, h1, h2, h4⟩ := h
  have hl := (List.getElem?_eq_some_iff.1 hk).1
  obtain ⟨g, off, ha, hg, hc⟩ := h4 (by omega)
  have : a = a' := by injection hv
  exact ⟨g, off, this.trans ha, hc k x hk⟩
theorem infoI : (Try.prog.info? 3).map (fun i => (i.zero, i.size, i.bytes)) = some (some (.int .i64 0), 1, 8) := by kernel_rfl
def icells (l : List Int) : List Value := l.map (Value.int .i64)
theorem icells_length (l : List Int) : (icells l).length = l.length := List.length_map ..
theorem icells_at {l : List Int} {j : Nat} {x : Int} (h : l[j]? = some x) : (icells l)[j]? = some (.int .i64 x) := by simp [icells, h]
/-- the value v owns these numbers, in a block from B on -/
def Iw (w : World) (B : Nat) (v : Value) (l : List Int) : Prop := w.ownsRow B 3 1 v l.length (icells l)
theorem Iw.nil (w : World) (B : Nat) : Iw w B (.slice none 0 0) [] := ⟨rfl, .inl ⟨rfl, rfl⟩⟩
theorem grown_below {w u : World} (hb : Below w.heap.size w u) : w.grownBy u none := ⟨hb.os, hb.tape, hb.output, hb.size, fun k hk _ => hb.block k hk⟩
theorem own_block {w : World} {B : Nat} {e : TypeId} {s : Nat} {v : Value} {n : Nat} {xs : List Value} (h : w.ownsRow B e s v n xs) : ∀ k, v.ownBlock = some k → B ≤ k := fun k hk => (World.ownsRow.lt h k hk).1
theorem Iw.below {w u : World} {B : Nat} {v : Value} {l : List Int} (h : Iw w B v l) (hb : Below w.heap.size w u) : Iw u B v l := by
  cases hv : v.ownBlock with
  | none => exact World.ownsRow.kept h (grown_below hb) (.inl hv)
  | some k => exact World.ownsRow.kept h (grown_below hb) (.inr (by rw [hv]; simp))
theorem Iw.ris {w : World} {B : Nat} {v : Value} {l : List Int} (h : Iw w B v l) : Ris w v l := by
  have h' := h
  rcases h.2 with ⟨rfl, h0⟩ | ⟨g, cap, cur, rfl, hB, hg, hnc, hcm, hs, ht⟩
  · exact ⟨none, 0, by rw [h0], by omega, Nat.zero_le _, fun q => by omega⟩
  · refine ⟨_, cap, rfl, hnc, hcm, fun _ => ⟨g, 0, rfl, (Array.getElem?_eq_some_iff.1 hg).1, fun j x hx => ?_⟩⟩
    have hj := (List.getElem?_eq_some_iff.1 hx).1
    rw [Nat.zero_add, World.ownsRow.cellAt h' j (by omega)]
    exact icells_at hx
theorem info_parts' {z : Value} {n b : Nat} {t : TypeId} (h : (Try.prog.info? t).map (fun i => (i.zero, i.size, i.bytes)) = some (some z, n, b)) : ∃ i, Try.prog.info? t = some i ∧ i.zero = some z ∧ i.size = n ∧ i.bytes = b := by
  cases hq : Try.prog.info? t with
  | none => simp [hq] at h
  | some i => simp [hq] at h; exact ⟨i, rfl, h.1, h.2.1, h.2.2⟩
/-- one number behind the others, and where they lie then -/
theorem run_ints (w : World) (B : Nat) (v : Value) (acc : List Int) (h : Iw w B v acc) (ad : Addr) (c : Nat) (x : Int) (hx : w.cell? (ad.add 0) = some (.int .i64 x)) (hl : acc.length ≤ 100000) (hB : B ≤ w.heap.size) (ty : TypeId) :
    ∃ v' w', (Builtin.append_ #[137, 137] ty #[v, .slice (some ad) 1 c]).run Try.prog w = .ok v' w' ∧ Iw w' B v' (acc ++ [x]) ∧ w.grownBy w' v.ownBlock ∧ Below B w w' ∧ (v'.ownBlock = v.ownBlock ∨ ∀ k, v'.ownBlock = some k → w.heap.size ≤ k) := by
  obtain ⟨i0, hi, hz0, hz1, hz2⟩ := info_parts' infoI
  have hnews : ∀ j u, [Value.int .i64 x][j]? = some u → w.cell? (ad.add j) = some u := fun j u hj => by
    have hj0 : j = 0 := by have := (List.getElem?_eq_some_iff.1 hj).1; simp at this; exact this
    subst hj0
    simp at hj
    subst hj
    exact hx
  have h1 : ∀ u ∈ [Value.int .i64 x], u.oneCell' = true := fun u hu => by simp at hu; subst hu; rfl
  have go : ∀ B, B ≤ w.heap.size → Iw w B v acc → ∃ v' w', (Builtin.append_ #[137, 137] ty #[v, .slice (some ad) 1 c]).run Try.prog w = .ok v' w' ∧ w'.ownsRow B 3 1 v' (acc.length + 1) (icells acc ++ [.int .i64 x]) ∧ w.grownBy w' v.ownBlock := fun B hB h => by
    obtain ⟨v', w', q1, q2, q3, _⟩ := run_append_own (P := Try.prog) w B 137 ty 3 i0 _ 1 8 Try.underlying137 hi hz0 hz1 hz2 rfl (by omega) v acc.length (icells acc) h ad 1 c [.int .i64 x] rfl hnews h1 (by unfold maxLen; omega) (by omega) hB
    exact ⟨v', w', q1, q2, q3⟩
  obtain ⟨v', w', q1, q2, q3⟩ := go B hB h
  refine ⟨v', w', q1, ?_, q3, (Below.refl _ _).grown q3 hB (own_block h), ?_⟩
  · unfold Iw
    rw [List.length_append, show icells (acc ++ [x]) = icells acc ++ [.int .i64 x] by simp [icells]]
    exact q2
  · rcases h.2 with ⟨rfl, h0⟩ | ⟨g, cap, cur, rfl, hb, hg, hnc, hcm, hcs, htake⟩
    · right
      have hacc : acc = [] := List.eq_nil_of_length_eq_zero h0
      subst hacc
      obtain ⟨v2, w2, r1, r2, _⟩ := go w.heap.size (Nat.le_refl _) ⟨rfl, .inl ⟨rfl, rfl⟩⟩
      rw [q1] at r1
      injection r1 with r1 r1'
      subst r1 r1'
      exact own_block r2
    · by_cases hroom : acc.length + 1 ≤ cap
      · left
        obtain ⟨w2, r1, _, _⟩ := run_append_fits (P := Try.prog) w B 137 ty 3 i0 1 Try.underlying137 hi hz1 g acc.length cap (icells acc) h ad 1 c [.int .i64 x] rfl hnews h1 hroom
        rw [q1] at r1
        injection r1 with r1 _
        rw [r1]
        rfl
      · right
        have hr := run_append_grow (P := Try.prog) w 137 ty 3 i0 _ Try.underlying137 hi hz0 ⟨g, 0, none⟩ acc.length cap (icells acc) (by rw [hz1, icells_length, Nat.mul_one]) (World.ownsRow.cells (g := g) h rfl) ad 1 c [.int .i64 x] (by rw [hz1]; rfl) hnews (by omega) (by omega) (growslice_fits (by omega) (by rw [hz2]; omega))
        rw [q1] at hr
        injection hr with hr _
        rw [hr]
        intro k hk
        injection hk with hk
        simp at hk
        omega
/-- boxes, and two rows of numbers -/
structure CI (w u : World) (L : List Bk) (v1 v2 : Value) (l1 l2 : List Int) : Prop where
  mm : Mm w u L
  i1 : Iw u w.heap.size v1 l1
  i2 : Iw u w.heap.size v2 l2
  ap : ∀ k, v1.ownBlock = some k → v2.ownBlock ≠ some k
  ty : ∀ x ∈ L, x.2.1 ≠ 3
theorem Chg.grown {B : Nat} {w u : World} (h : Chg B w u) : w.grownBy u (some B) := by
  have hb := h.below 0 w (Nat.zero_le _) (Below.refl _ _)
  exact ⟨hb.os, hb.tape, hb.output, by rw [h.size]; exact Nat.le_refl _, fun k _ hk => h.other k (fun e => hk (by rw [e]))⟩
theorem own_bx {w : World} {B X : Nat} {v : Value} {l : List Int} {T : TypeId} {r : List Int} (h : Iw w B v l) (hX : w.heap[X]? = some (bx T r)) (hT : T ≠ 3) : v.ownBlock ≠ some X := by
  intro q
  obtain ⟨c, fz, h1⟩ := Lib.ownsRow_kind h X q
  rw [hX] at h1
  injection h1 with h1
  injection h1 with _ h1 _
  exact hT h1
theorem Iw.chg {w u : World} {B X : Nat} {v : Value} {l : List Int} {T : TypeId} {r : List Int} (h : Iw w B v l) (hX : w.heap[X]? = some (bx T r)) (hT : T ≠ 3) (hc : Chg X w u) : Iw u B v l :=
  World.ownsRow.kept h hc.grown (.inr (own_bx h hX hT))
theorem Mm.grown {w u x : World} {L : List Bk} {v : Value} {l : List Int} (h : Mm w u L) (hi : Iw u w.heap.size v l) (ht : ∀ x ∈ L, x.2.1 ≠ 3) (hg : u.grownBy x v.ownBlock) (hB : Below w.heap.size u x) : Mm w x L := by
  refine ⟨fun y hy => ?_, h.own, h.ap, h.below.trans hB⟩
  have hl := h.lies y hy
  exact (hg.block y.1 (bx_lt hl) (fun e => own_bx hi hl (ht y hy) e.symm)).trans hl
section
variable {w u x : World} {L : List Bk} {v1 v2 : Value} {l1 l2 : List Int}
theorem CI.call (h : CI w u L v1 v2 l1 l2) (hb : Below u.heap.size u x) : CI w x L v1 v2 l1 l2 := ⟨h.mm.call hb, h.i1.below hb, h.i2.below hb, h.ap, h.ty⟩
theorem CI.new {B : Nat} {T : TypeId} {l : List Int} (h : CI w u L v1 v2 l1 l2) (n : New u x B T l) (hT : T ≠ 3) : CI w x ((B, T, l) :: L) v1 v2 l1 l2 := ⟨h.mm.new n, h.i1.below n.below, h.i2.below n.below, h.ap, fun y hy => by
  rcases List.mem_cons.1 hy with rfl | q
  · exact hT
  · exact h.ty y q⟩
theorem CI.tail {a : Bk} (h : CI w u (a :: L) v1 v2 l1 l2) : CI w u L v1 v2 l1 l2 := ⟨h.mm.tail, h.i1, h.i2, h.ap, fun y hy => h.ty y (List.mem_cons_of_mem _ hy)⟩
theorem CI.put0 {B : Nat} {T : TypeId} {l l' : List Int} (h : CI w u ((B, T, l) :: L) v1 v2 l1 l2) (hc : Chg B u x) (hl : x.heap[B]? = some (bx T l')) : CI w x ((B, T, l') :: L) v1 v2 l1 l2 :=
  have hT : T ≠ 3 := h.ty (B, T, l) (by simp)
  ⟨h.mm.put0 hc hl, h.i1.chg h.mm.at0 hT hc, h.i2.chg h.mm.at0 hT hc, h.ap, fun y hy => by
    rcases List.mem_cons.1 hy with rfl | q
    · exact hT
    · exact h.ty y (List.mem_cons_of_mem _ q)⟩
end
/-- one number in a new row -/
theorem a_bs {ops : Array Oper} {rest : List Oper} {o : Oper} {a : Act} {w : World} {Q : Exit → Act → World → Prop} (hgd : Region.wanted o (yielded ops a.tmps) = true) {x : Operand} (ho : o.op = .buildSlice 137 1 #[(0, x)]) {v : Int} (hx : a.eval x = .int .i64 v)
    (h : ∀ u g, Below w.heap.size w u → u.cell? ⟨g, 0, none⟩ = some (.int .i64 v) → wpList Try.prog ops Q rest (a.put o.dst (.slice (some ⟨g, 0, none⟩) 1 1)) u) : wpList Try.prog ops Q (o :: rest) a w := by
  refine wpList_step fun K hK' => ?_
  rw [if_pos hgd]
  have hr : (Instr.buildSlice 137 1 #[(0, .int .i64 v)]).run Try.prog w = .ok (.slice (some ⟨w.heap.size, 0, none⟩) 1 1) (w.alloc (.cells #[.int .i64 v] 3)) := by kernel_rfl
  unfold Oper.wp execOp
  simp only [ho, List.map_toArray, List.map_cons, List.map_nil, hx, Sem.run_bind, hr, Result.andThen_ok, Sem.run_pure]
  refine hK' _ _ (h _ _ (balloc _ _) ?_)
  rw [cell_of_row _ _ _ _ _ (0, 0) (MapKept.heap_alloc w _).1]
  rfl
theorem run_append_op {P : Program} {o : Oper} {a : Act} {w w' : World} (s x : Operand) (t : TypeId) (ho : o.op = .call { callee := .builtin .append, args := #[s, x], argTypes := #[t, t] }) (v1 v2 v : Value) (hs : a.eval s = v1) (hx : a.eval x = v2)
    (hr : (Builtin.append_ #[t, t] o.type #[v1, v2]).run P w = .ok v w') : (execOp a.eval o).run P w = .ok (.value v) w' := by
  unfold execOp
  simp only [ho, resolve, invoke, builtin, Sem.run_bind, Sem.run_pure, Result.andThen_ok, List.map_toArray, List.map_cons, List.map_nil, hs, hx, hr]
theorem a_app1 {ops : Array Oper} {rest : List Oper} {o : Oper} {a : Act} {w0 w : World} {Q : Exit → Act → World → Prop} (hgd : Region.wanted o (yielded ops a.tmps) = true) {s x : Operand} (ho : o.op = .call { callee := .builtin .append, args := #[s, x], argTypes := #[137, 137] })
    {L : List Bk} {v1 v2 : Value} {l1 l2 : List Int} {g : Nat} {v : Int} (hs : a.eval s = v1) (hx : a.eval x = .slice (some ⟨g, 0, none⟩) 1 1) (hI : CI w0 w L v1 v2 l1 l2) (hc : w.cell? ⟨g, 0, none⟩ = some (.int .i64 v)) (hl : l1.length ≤ 100)
    (h : ∀ u v', CI w0 u L v' v2 (l1 ++ [v]) l2 → wpList Try.prog ops Q rest (a.put o.dst v') u) : wpList Try.prog ops Q (o :: rest) a w := by
  refine wpList_step fun K hK' => ?_
  rw [if_pos hgd]
  obtain ⟨v', w', hr, h1, h2, h3, h4⟩ := run_ints w w0.heap.size v1 l1 hI.i1 ⟨g, 0, none⟩ 1 v (by simpa [Addr.add] using hc) (by omega) hI.mm.below.size o.type
  unfold Oper.wp
  rw [run_append_op s x _ ho _ _ v' hs hx hr]
  refine hK' _ _ (h w' v' ⟨hI.mm.grown hI.i1 hI.ty h2 h3, h1, World.ownsRow.kept hI.i2 h2 ?_, fun k hk hk2 => ?_, hI.ty⟩)
  · cases hq : v2.ownBlock with
    | none => exact .inl rfl
    | some k => exact .inr (fun q => hI.ap k q.symm hq)
  · rcases h4 with q | q
    · exact hI.ap k (by rw [← q]; exact hk) hk2
    · have := q k hk
      have := (World.ownsRow.lt hI.i2 k hk2).2
      omega
theorem a_app2 {ops : Array Oper} {rest : List Oper} {o : Oper} {a : Act} {w0 w : World} {Q : Exit → Act → World → Prop} (hgd : Region.wanted o (yielded ops a.tmps) = true) {s x : Operand} (ho : o.op = .call { callee := .builtin .append, args := #[s, x], argTypes := #[137, 137] })
    {L : List Bk} {v1 v2 : Value} {l1 l2 : List Int} {g : Nat} {v : Int} (hs : a.eval s = v2) (hx : a.eval x = .slice (some ⟨g, 0, none⟩) 1 1) (hI : CI w0 w L v1 v2 l1 l2) (hc : w.cell? ⟨g, 0, none⟩ = some (.int .i64 v)) (hl : l2.length ≤ 100)
    (h : ∀ u v', CI w0 u L v1 v' l1 (l2 ++ [v]) → wpList Try.prog ops Q rest (a.put o.dst v') u) : wpList Try.prog ops Q (o :: rest) a w := by
  refine wpList_step fun K hK' => ?_
  rw [if_pos hgd]
  obtain ⟨v', w', hr, h1, h2, h3, h4⟩ := run_ints w w0.heap.size v2 l2 hI.i2 ⟨g, 0, none⟩ 1 v (by simpa [Addr.add] using hc) (by omega) hI.mm.below.size o.type
  unfold Oper.wp
  rw [run_append_op s x _ ho _ _ v' hs hx hr]
  refine hK' _ _ (h w' v' ⟨hI.mm.grown hI.i2 hI.ty h2 h3, World.ownsRow.kept hI.i1 h2 ?_, h1, fun k hk hk2 => ?_, hI.ty⟩)
  · cases hq : v1.ownBlock with
    | none => exact .inl rfl
    | some k => exact .inr (fun q => hI.ap k hq q.symm)
  · rcases h4 with q | q
    · exact hI.ap k hk (by rw [← q]; exact hk2)
    · have := q k hk2
      have := (World.ownsRow.lt hI.i1 k hk).2
      omega
theorem mem_at {l : List Int} {k : Nat} {x y : Int} (h : l[k]? = some y) : (x ∈ l.drop k) ↔ x = y ∨ x ∈ l.drop (k + 1) := by
  have hk := (List.getElem?_eq_some_iff.1 h).1
  rw [List.drop_eq_getElem_cons hk, (List.getElem?_eq_some_iff.1 h).2, List.mem_cons]
set_option maxHeartbeats 2000000 in
theorem index_any (v : Value) (l : List Int) (x : Int) (w : World) (hv : Ris w v l) (hl : l.length ≤ 1000) : Calls Try.prog 101 #[v, .int .i64 x] w fun e w' => (∃ r : Int, e = .returned (.int .i64 r) ∧ (0 ≤ r ↔ x ∈ l)) ∧ w = w' := by
  obtain ⟨a, c, rfl, hlc, hcm⟩ := hv.form
  obtain ⟨n, hn⟩ : ∃ n, l.length = n := ⟨_, rfl⟩
  have HN : Hid (l.length = n) := hn
  rw [hn] at hv hlc hl ⊢
  have HR : Hid (Ris w (.slice a n c) l) := hv
  obtain ⟨P, hP⟩ : ∃ P : Prop, P = (x ∈ l) := ⟨_, rfl⟩
  have HP : Hid (x ∈ l ↔ P) := by show _ ↔ _; rw [hP]
  rw [← hP]
  unfold maxLen at hcm
  clear hv hn hP
  go_enter Try.func101, Try.ntmps101
  go_wp2
  go_loopw [5, 8] (fun _ i wr => ∃ k : Nat, k ≤ n ∧ i = .int .i64 (k : Int) ∧ w = wr ∧ Hid (x ∈ l.drop k ↔ P)) (fun _ i _ => n - (intOf i).toNat)
  case atStart => exact ⟨0, Nat.zero_le _, rfl, rfl, HP.out⟩
  case round =>
    obtain ⟨k, hk, rfl, rfl, HA⟩ := hrel
    by_cases hlt : ¬ k < n
    · have HQ : Hid (¬ P) := by
        have := HA.out
        rw [List.drop_eq_nil_of_le (by have := HN.out; omega)] at this
        exact fun h => by simpa using this.2 h
      clear HA HP
      go_wp2
      go_ret
      exact ⟨⟨_, rfl, ⟨fun h => by omega, fun h => absurd h HQ.out⟩⟩, rfl⟩
    have hlt : k < n := by omega
    have hkL : k < l.length := by have := HN.out; omega
    obtain ⟨y, hy⟩ : ∃ y, l[k]? = some y := ⟨l[k], List.getElem?_eq_getElem hkL⟩
    obtain ⟨g, off, rfl, hcell⟩ := HR.out.at k y hy
    have HA2 : Hid ((x = y ∨ x ∈ l.drop (k + 1)) ↔ P) := by have := HA.out; rw [mem_at hy] at this; exact this
    clear HA hy hkL
    by_cases hxy : x = y
    · have HQ : Hid P := HA2.out.1 (.inl hxy)
      have e1 : (x == y) = true := by simpa using hxy
      clear HA2 hxy HP
      go_wp2
      go_ret
      exact ⟨⟨_, rfl, ⟨fun _ => HQ.out, fun _ => by omega⟩⟩, rfl⟩
    · have HQ : Hid (x ∈ l.drop (k + 1) ↔ P) := ⟨fun h => HA2.out.1 (.inr h), fun h => by rcases HA2.out.2 h with q | q; exact absurd q hxy; exact q⟩
      have e1 : (x == y) = false := by simpa using hxy
      clear HA2 hxy HP
      go_wp2
      go_roundw
      case rel => exact ⟨k + 1, by omega, by go_num, trivial, HQ.out⟩
      case measure => simp [intOf]; omega
theorem contains_any (v : Value) (l : List Int) (x : Int) (w : World) (hv : Ris w v l) (hl : l.length ≤ 1000) : Calls Try.prog 96 #[v, .int .i64 x] w fun e w' => e = .returned (.bool (decide (x ∈ l))) ∧ w = w' := by
  have HI : Hid (Calls Try.prog 101 #[v, .int .i64 x] w fun e w' => (∃ r : Int, e = .returned (.int .i64 r) ∧ (0 ≤ r ↔ x ∈ l)) ∧ w = w') := index_any v l x w hv hl
  obtain ⟨d, hd⟩ : ∃ d, decide (x ∈ l) = d := ⟨_, rfl⟩
  have HD : Hid (∀ r : Int, (0 ≤ r ↔ x ∈ l) → decide (0 ≤ r) = d) := fun r hr => by rw [← hd]; exact decide_eq_decide.2 hr
  rw [hd]
  clear hv hl hd
  go_enter Try.func96, Try.ntmps96
  go_wp2_with fail
  refine (HI.out).mono ?_
  rintro e u ⟨⟨r, rfl, hr⟩, rfl⟩
  have e1 := HD.out r hr
  clear hr
  go_wp2
  go_ret
  exact ⟨rfl, rfl⟩
set_option maxHeartbeats 2000000 in
theorem leastFree_any (v : Value) (l : List Int) (w : World) (hv : Ris w v l) (hl : l.length ≤ 100) : Calls Try.prog 84 #[v] w fun e w' => e = .returned (.int .i64 (lst l : Int)) ∧ w = w' := by
  have HC : Hid (∀ x : Int, Calls Try.prog 96 #[v, .int .i64 x] w fun e w' => e = .returned (.bool (decide (x ∈ l))) ∧ w = w') := fun x => contains_any v l x w hv (by omega)
  obtain ⟨q, hq⟩ : ∃ q, lst l = q := ⟨_, rfl⟩
  have HQ : Hid (lst l = q) := hq
  have HL : Hid (l.length ≤ 100) := hl
  rw [hq]
  clear hq hv hl
  go_enter Try.func84, Try.ntmps84
  go_wp2
  go_loopw [3] (fun i wr => ∃ k : Nat, 1 ≤ k ∧ k ≤ 101 ∧ i = .int .i64 (k : Int) ∧ w = wr ∧ Hid (∀ x : Nat, 1 ≤ x → x < k → (x : Int) ∈ l)) (fun i _ => 101 - (intOf i).toNat)
  case atStart => exact ⟨1, by omega, by omega, rfl, rfl, fun x h1 h2 => by omega⟩
  case round =>
    obtain ⟨k, hk1, hk, rfl, rfl, HA⟩ := hrel
    go_wp2_with fail
    refine (HC.out _).mono ?_
    rintro e u ⟨rfl, rfl⟩
    by_cases hm : ¬ (k : Int) ∈ l
    · have HE : Hid (k = q) := by show k = q; rw [← HQ.out]; exact (lst_eq ⟨hk1, hm, HA.out⟩).symm
      rw [decide_eq_false hm]
      clear HA HQ hm
      go_wp2
      go_ret
      rw [← HE.out]
      exact ⟨rfl, rfl⟩
    · have hm : (k : Int) ∈ l := by
        by_cases z : (k : Int) ∈ l
        · exact z
        · exact absurd z hm
      have HA2 : Hid (∀ x : Nat, 1 ≤ x → x < k + 1 → (x : Int) ∈ l) := fun x h1 h2 => by
        by_cases e : x = k
        · rw [e]; exact hm
        · exact HA.out x h1 (by omega)
      have hk9 : k + 1 ≤ 101 := by
        have := pig k l (fun x h1 h2 => HA2.out x h1 (by omega))
        have := HL.out
        omega
      rw [decide_eq_true hm]
      clear HA HQ hm
      go_wp2
      go_roundw
      case rel => exact ⟨k + 1, by omega, by omega, by go_num, trivial, HA2.out⟩
      case measure => simp [intOf]; omega
end Go.Proofs.Ythjmcopknkemnaa.slots
