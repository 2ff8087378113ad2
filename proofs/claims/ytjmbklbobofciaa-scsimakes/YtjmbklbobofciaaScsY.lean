/- plugref: Made. -/
import Derived.Test.YtjmbklbobofciaaScsR
namespace Go.Proofs.Ytjmbklbobofciaa.scsi
open Go.RowKit Go.PlainAid Go.Proofs.Ytjmbklbobofciaa.lane Go.Proofs.Ytjmbklbobofciaa.pipe Go.Proofs.Ytjmbklbobofciaa.strike
set_option linter.unusedVariables false
set_option linter.unusedSimpArgs false
set_option maxRecDepth 100000

set_option maxHeartbeats 4000000 in
theorem made_any (op lba cnt : Int) (w : World) : Calls Try.prog 13 #[.int .i64 op, .int .i64 lba, .int .i64 cnt] w fun e w' => e = .returned (.tuple #[.string (mkT op lba cnt), .int .i64 (mkC op lba cnt)]) ∧ Below w.heap.size w w' := by
  obtain ⟨y1, hy1⟩ : ∃ y1, w.alloc (.cells #[.int .i64 40, .int .i64 42, .int .i64 53] 3) = y1 := ⟨_, rfl⟩
  have hb1 : Below w.heap.size w y1 := by rw [← hy1]; exact balloc _ _
  have HB1 : Hid (Below w.heap.size w y1) := hb1
  have HC : Hid (Calls Try.prog 29 #[.slice (some ⟨w.heap.size, 0, none⟩) 3 3, .int .i64 op] y1 fun e w' => e = .returned (.bool (opB op)) ∧ y1 = w') := by
    have := contains_any (.slice (some ⟨w.heap.size, 0, none⟩) 3 3) [40, 42, 53] op y1 (by rw [← hy1]; exact ixs_laid w [40, 42, 53] (by decide)) (by decide)
    have e : decide (op ∈ [40, 42, 53]) = opB op := by
      unfold opB; rw [Bool.eq_iff_iff]; simp [or_assoc]
    rw [e] at this
    exact this
  have HT : Hid (∀ u, Calls Try.prog 30 #[.int .i64 32] u fun e w' => e = .returned (.int .i64 4294967296) ∧ u = w') := fun u => two_any 32 (by omega) u
  have HBL : Hid (∀ u, Calls Try.prog 10 #[.int .i64 lba, .int .i64 0, .int .i64 4294967295] u fun e w' => e = .returned (.bool (decide (0 ≤ lba) && decide (lba ≤ 4294967295))) ∧ u = w') := fun u => between_any lba 0 4294967295 u
  have HBC : Hid (∀ u, Calls Try.prog 10 #[.int .i64 cnt, .int .i64 0, .int .i64 65535] u fun e w' => e = .returned (.bool (decide (0 ≤ cnt) && decide (cnt ≤ 65535))) ∧ u = w') := fun u => between_any cnt 0 65535 u
  clear hb1
  by_cases hop : opB op = false
  · have hm : mkB op lba cnt = false := by unfold mkB; rw [hop]; rfl
    have e1 : mkT op lba cnt = ⟨#[]⟩ := by unfold mkT; rw [hm]; rfl
    have e2 : mkC op lba cnt = 1 := by unfold mkC; rw [hm]; rfl
    rw [e1, e2]
    rw [hop] at HC
    clear e1 e2 hm hop HT HBL HBC
    go_enter Try.func13, Try.ntmps13
    go_wp2_with fail
    refine HC.out.mono ?_
    rintro e u ⟨rfl, rfl⟩
    clear HC
    go_wp2
    go_ret2
    exact ⟨rfl, HB1.out⟩
  have hop : opB op = true := by cases q : opB op with | true => rfl | false => exact absurd q hop
  rw [hop] at HC
  by_cases hl : ¬ (0 ≤ lba ∧ lba ≤ 4294967295)
  · have hm : mkB op lba cnt = false := by
      cases q : mkB op lba cnt with
      | false => rfl
      | true => exact absurd (((mk_iff _ _ _).1 q).2) (fun r => hl ⟨r.1, r.2.1⟩)
    have e1 : mkT op lba cnt = ⟨#[]⟩ := by unfold mkT; rw [hm]; rfl
    have e2 : mkC op lba cnt = 1 := by unfold mkC; rw [hm]; rfl
    rw [e1, e2]
    rw [show (decide (0 ≤ lba) && decide (lba ≤ 4294967295)) = false by rw [Bool.and_eq_false_iff, decide_eq_false_iff_not, decide_eq_false_iff_not]; omega] at HBL
    clear e1 e2 hm hop hl HBC
    go_enter Try.func13, Try.ntmps13
    go_wp2_with fail
    refine HC.out.mono ?_
    rintro e u ⟨rfl, rfl⟩
    clear HC
    go_wp2_with fail
    refine (HT.out _).mono ?_
    rintro e u ⟨rfl, rfl⟩
    go_wp2_with fail
    refine (HBL.out _).mono ?_
    rintro e u ⟨rfl, rfl⟩
    clear HT HBL
    go_wp2
    go_ret2
    exact ⟨rfl, HB1.out⟩
  have hl : 0 ≤ lba ∧ lba ≤ 4294967295 := Classical.not_not.1 hl
  rw [show (decide (0 ≤ lba) && decide (lba ≤ 4294967295)) = true by rw [Bool.and_eq_true, decide_eq_true_eq, decide_eq_true_eq]; omega] at HBL
  by_cases hc : ¬ (0 ≤ cnt ∧ cnt ≤ 65535)
  · have hm : mkB op lba cnt = false := by
      cases q : mkB op lba cnt with
      | false => rfl
      | true => exact absurd (((mk_iff _ _ _).1 q).2) (fun r => hc ⟨r.2.2.1, r.2.2.2⟩)
    have e1 : mkT op lba cnt = ⟨#[]⟩ := by unfold mkT; rw [hm]; rfl
    have e2 : mkC op lba cnt = 1 := by unfold mkC; rw [hm]; rfl
    rw [e1, e2]
    rw [show (decide (0 ≤ cnt) && decide (cnt ≤ 65535)) = false by rw [Bool.and_eq_false_iff, decide_eq_false_iff_not, decide_eq_false_iff_not]; omega] at HBC
    clear e1 e2 hm hop hl hc
    go_enter Try.func13, Try.ntmps13
    go_wp2_with fail
    refine HC.out.mono ?_
    rintro e u ⟨rfl, rfl⟩
    clear HC
    go_wp2_with fail
    refine (HT.out _).mono ?_
    rintro e u ⟨rfl, rfl⟩
    go_wp2_with fail
    refine (HBL.out _).mono ?_
    rintro e u ⟨rfl, rfl⟩
    clear HT HBL
    go_wp2_with fail
    refine (HBC.out _).mono ?_
    rintro e u ⟨rfl, rfl⟩
    clear HBC
    go_wp2
    go_ret2
    exact ⟨rfl, HB1.out⟩
  have hc : 0 ≤ cnt ∧ cnt ≤ 65535 := Classical.not_not.1 hc
  rw [show (decide (0 ≤ cnt) && decide (cnt ≤ 65535)) = true by rw [Bool.and_eq_true, decide_eq_true_eq, decide_eq_true_eq]; omega] at HBC
  have ho := (op_iff op).1 hop
  have hm : mkB op lba cnt = true := (mk_iff _ _ _).2 ⟨ho, hl.1, hl.2, hc.1, hc.2⟩
  have e1 : mkT op lba cnt = strOfNums [op] ++ ⟨#[0]⟩ ++ strOfNums (be4 lba) ++ ⟨#[0]⟩ ++ strOfNums (be2 cnt) ++ ⟨#[0]⟩ := by
    have e : (⟨#[0]⟩ : ByteArray) = strOfNums [0] := rfl
    unfold mkT
    rw [if_pos hm, e, ← str_append, ← str_append, ← str_append, ← str_append, ← str_append]
    rfl
  have e2 : mkC op lba cnt = 0 := by unfold mkC; rw [hm]; rfl
  rw [e1, e2]
  have HH1 : Hid (∀ u, Calls Try.prog 31 #[.int .i64 op, .int .i64 1] u fun e w' => e = .returned (.string (strOfNums [op])) ∧ Below u.heap.size u w') := fun u => by
    have := high_any op 1 (by omega) (by omega) (by omega) u
    rw [hi_one op (by omega) (by omega)] at this
    exact this
  have HH2 : Hid (∀ u, Calls Try.prog 31 #[.int .i64 lba, .int .i64 4] u fun e w' => e = .returned (.string (strOfNums (be4 lba))) ∧ Below u.heap.size u w') := fun u => by
    have := high_any lba 4 (by omega) (by omega) (by omega) u
    rw [hi_four] at this
    exact this
  have HH3 : Hid (∀ u, Calls Try.prog 31 #[.int .i64 cnt, .int .i64 2] u fun e w' => e = .returned (.string (strOfNums (be2 cnt))) ∧ Below u.heap.size u w') := fun u => by
    have := high_any cnt 2 (by omega) (by omega) (by omega) u
    rw [hi_two] at this
    exact this
  have z1 : (strOfNums [op]).size = 1 := str_size _
  have z2 : (strOfNums (be4 lba)).size = 4 := str_size _
  have z3 : (strOfNums (be2 cnt)).size = 2 := str_size _
  generalize strOfNums [op] = k1 at *
  generalize strOfNums (be4 lba) = k2 at *
  generalize strOfNums (be2 cnt) = k3 at *
  clear e1 e2 hm ho hop hl hc
  go_enter Try.func13, Try.ntmps13
  go_wp2_with fail
  refine HC.out.mono ?_
  rintro e u ⟨rfl, rfl⟩
  clear HC
  go_wp2_with fail
  refine (HT.out _).mono ?_
  rintro e u ⟨rfl, rfl⟩
  go_wp2_with fail
  refine (HBL.out _).mono ?_
  rintro e u ⟨rfl, rfl⟩
  clear HT HBL
  go_wp2_with fail
  refine (HBC.out _).mono ?_
  rintro e u ⟨rfl, rfl⟩
  clear HBC
  go_wp2_with fail
  refine (HH1.out _).mono ?_
  rintro e u ⟨rfl, hb⟩
  replace HB1 : Hid (Below w.heap.size w u) := bsq HB1.out hb
  clear HH1 hb
  go_wp2_with fail
  refine (HH2.out _).mono ?_
  rintro e u2 ⟨rfl, hb⟩
  replace HB1 : Hid (Below w.heap.size w u2) := bsq HB1.out hb
  clear HH2 hb
  go_wp2_with fail
  refine (HH3.out _).mono ?_
  rintro e u3 ⟨rfl, hb⟩
  replace HB1 : Hid (Below w.heap.size w u3) := bsq HB1.out hb
  clear HH3 hb
  go_wp2
  go_ret2
  exact ⟨rfl, HB1.out⟩
end Go.Proofs.Ytjmbklbobofciaa.scsi
