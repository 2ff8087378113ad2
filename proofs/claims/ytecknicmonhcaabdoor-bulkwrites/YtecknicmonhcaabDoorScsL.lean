/- plugref's SameDisk; plugkeep's scsiLives. -/
import Derived.Test.YtecknicmonhcaabDoorScsK
namespace Go.Proofs.YtecknicmonhcaabDoor.scsi
open Go.RowKit Go.PlainAid Go.Proofs.YtecknicmonhcaabDoor.lane Go.Proofs.YtecknicmonhcaabDoor.pipe Go.Proofs.YtecknicmonhcaabDoor.strike
set_option linter.unusedVariables false
set_option linter.unusedSimpArgs false
set_option maxRecDepth 100000

set_option maxHeartbeats 2000000 in
theorem same_any (v1 v2 : Value) (l1 l2 : List ByteArray) (s1 s2 : Int) (w : World) (h1 : Rts w v1 l1) (h2 : Rts w v2 l2) :
    Calls Tryd.prog 7 #[dkV v1 s1, dkV v2 s2] w fun e w' => e = .returned (.bool (decide (s1 = s2) && decide (l1 = l2))) ∧ Below w.heap.size w w' := by
  obtain ⟨a1, c1, rfl, _, _⟩ := rts_form h1
  obtain ⟨a2, c2, rfl, _, _⟩ := rts_form h2
  obtain ⟨w1, hw1, hX1, hb1⟩ := dk_named w (.slice a1 l1.length c1) s1
  obtain ⟨w2, hw2, hY2, hb2⟩ := dk_named w1 (.slice a2 l2.length c2) s2
  obtain ⟨⟨_, x0, x1⟩, f0, f1⟩ := boxD (keep hX1 hb2)
  obtain ⟨⟨_, y0, y1⟩, g0, g1⟩ := boxD hY2
  have hb := bsq hb1 hb2
  have HB : Hid (Below w.heap.size w w2) := hb
  have HE : Hid (Calls Tryd.prog 10 #[.slice a1 l1.length c1, .slice a2 l2.length c2] w2 fun e w' => e = .returned (.bool (decide (l1 = l2))) ∧ Below w2.heap.size w2 w') := equalT_any _ _ l1 l2 w2 (h1.below hb) (h2.below hb)
  generalize l1.length = n1 at *
  generalize l2.length = n2 at *
  generalize decide (l1 = l2) = z at *
  clear h1 h2 hX1 hY2 hb1 hb2 hb
  by_cases hs : s1 = s2
  · have e1 : (s1 == s2) = true := by simp [hs]
    rw [decide_eq_true hs, Bool.true_and]
    clear hs
    go_enter Tryd.func7, Tryd.ntmps7
    go_wp2_with fail
    refine HE.out.mono ?_
    rintro e u ⟨rfl, hb⟩
    have HB2 : Hid (Below w.heap.size w u) := bsq HB.out hb
    clear hb HE HB
    go_wp2
    go_ret
    exact ⟨rfl, HB2.out⟩
  · have e1 : (s1 == s2) = false := by simp [hs]
    rw [decide_eq_false hs, Bool.false_and]
    clear hs HE
    go_enter Tryd.func7, Tryd.ntmps7
    go_wp2
    go_ret
    exact ⟨rfl, HB.out⟩
end Go.Proofs.YtecknicmonhcaabDoor.scsi
