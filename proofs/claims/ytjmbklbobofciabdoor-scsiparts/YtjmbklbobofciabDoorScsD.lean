/- scsi: Make. -/
import Derived.Test.YtjmbklbobofciabDoorScsB
namespace Go.Proofs.YtjmbklbobofciabDoor.scsi
open Go.RowKit Go.PlainAid Go.Proofs.YtjmbklbobofciabDoor.lane Go.Proofs.YtjmbklbobofciabDoor.pipe Go.Proofs.YtjmbklbobofciabDoor.strike
set_option linter.unusedVariables false
set_option linter.unusedSimpArgs false
set_option maxRecDepth 100000

set_option maxHeartbeats 2000000 in
theorem make_bad (op lba cnt : Int) (w : World) (h : mkB op lba cnt = false) : Calls Tryd.prog 4 #[.int .i64 op, .int .i64 lba, .int .i64 cnt] w fun e w' => e = .returned (.tuple #[.string ⟨#[]⟩, .int .i64 1]) ∧ w = w' := by
  have hn : ¬ ((op = 40 ∨ op = 42 ∨ op = 53) ∧ 0 ≤ lba ∧ lba ≤ 4294967295 ∧ 0 ≤ cnt ∧ cnt ≤ 65535) := fun q => by rw [(mk_iff _ _ _).2 q] at h; cases h
  by_cases ho : op = 40 ∨ op = 42 ∨ op = 53
  · have hn : ¬ (0 ≤ lba ∧ lba ≤ 4294967295 ∧ 0 ≤ cnt ∧ cnt ≤ 65535) := fun q => hn ⟨ho, q⟩
    rcases ho with rfl | rfl | rfl <;> (
      by_cases h1 : lba < 0
      · clear hn h
        go_enter Tryd.func4, Tryd.ntmps4
        go_wp2
        go_ret2
        exact ⟨rfl, rfl⟩
      by_cases h2 : lba > 4294967295
      · clear hn h
        go_enter Tryd.func4, Tryd.ntmps4
        go_wp2
        go_ret2
        exact ⟨rfl, rfl⟩
      by_cases h3 : cnt < 0
      · clear hn h
        go_enter Tryd.func4, Tryd.ntmps4
        go_wp2
        go_ret2
        exact ⟨rfl, rfl⟩
      have h4 : cnt > 65535 := by omega
      clear hn h
      go_enter Tryd.func4, Tryd.ntmps4
      go_wp2
      go_ret2
      exact ⟨rfl, rfl⟩)
  · have e0 : (op == 40) = false := by simp; omega
    have e1 : (op == 42) = false := by simp; omega
    have e2 : (op == 53) = false := by simp; omega
    clear ho hn h
    go_enter Tryd.func4, Tryd.ntmps4
    go_wp2
    go_ret2
    exact ⟨rfl, rfl⟩
set_option maxHeartbeats 2000000 in
theorem make_good (op lba cnt : Int) (w : World) (h : mkB op lba cnt = true) : Calls Tryd.prog 4 #[.int .i64 op, .int .i64 lba, .int .i64 cnt] w fun e w' => e = .returned (.tuple #[.string (strOfNums (cmdL op lba cnt)), .int .i64 0]) ∧ Below w.heap.size w w' := by
  obtain ⟨ho, a0, a1, b0, b1⟩ := (mk_iff _ _ _).1 h
  clear h
  have HN4 : Hid (∀ u, Calls Tryd.prog 9 #[.int .i64 lba, .int .i64 4] u fun e w' => e = .returned (.string (strOfNums (be4 lba))) ∧ Below u.heap.size u w') := fun u => number_4 lba u a0 a1
  have HN2 : Hid (∀ u, Calls Tryd.prog 9 #[.int .i64 cnt, .int .i64 2] u fun e w' => e = .returned (.string (strOfNums (be2 cnt))) ∧ Below u.heap.size u w') := fun u => number_2 cnt u b0 b1
  obtain ⟨w1, hw1, hcv, hb⟩ := bytes_named w [op, 0] _ rfl
  have HB : Hid (Below w.heap.size w w1) := hb
  have HE : Hid (strOfNums [op, 0] ++ strOfNums (be4 lba) ++ ⟨#[0]⟩ ++ strOfNums (be2 cnt) ++ ⟨#[0]⟩ = strOfNums (cmdL op lba cnt)) := by
    show _ = _
    have e : (⟨#[0]⟩ : ByteArray) = strOfNums [0] := rfl
    rw [e, ← str_append, ← str_append, ← str_append, ← str_append]
    rfl
  clear hb
  have z4 : (strOfNums (be4 lba)).size = 4 := str_size _
  have z2 : (strOfNums (be2 cnt)).size = 2 := str_size _
  have z0 : (strOfNums [op, 0]).size = 2 := str_size _
  generalize strOfNums (cmdL op lba cnt) = z at *
  generalize strOfNums (be4 lba) = y4 at *
  generalize strOfNums (be2 cnt) = y2 at *
  rcases ho with rfl | rfl | rfl <;> (
    generalize hq : strOfNums _ = y0 at hcv
    rw [hq] at HE z0
    clear hq
    simp only [List.map_cons, List.map_nil, List.length_cons, List.length_nil] at hw1 hcv
    go_enter Tryd.func4, Tryd.ntmps4
    go_wp2_with fail
    refine (HN4.out _).mono ?_
    rintro e u ⟨rfl, hb⟩
    have HB1 : Hid (Below w.heap.size w u) := bsq HB.out hb
    clear hb HN4 HB
    go_wp2_with fail
    refine (HN2.out _).mono ?_
    rintro e u ⟨rfl, hb⟩
    have HB2 : Hid (Below w.heap.size w u) := bsq HB1.out hb
    clear hb HN2 HB1
    go_wp2
    go_ret2
    rw [← HE.out]
    exact ⟨rfl, HB2.out⟩)
theorem make_any (op lba cnt : Int) (w : World) : Calls Tryd.prog 4 #[.int .i64 op, .int .i64 lba, .int .i64 cnt] w fun e w' => e = .returned (.tuple #[.string (mkT op lba cnt), .int .i64 (mkC op lba cnt)]) ∧ Below w.heap.size w w' := by
  unfold mkT mkC
  cases h : mkB op lba cnt with
  | true => exact make_good op lba cnt w h
  | false =>
    refine (make_bad op lba cnt w h).mono ?_
    rintro e u ⟨rfl, rfl⟩
    exact ⟨rfl, Below.refl _ _⟩
end Go.Proofs.YtjmbklbobofciabDoor.scsi
