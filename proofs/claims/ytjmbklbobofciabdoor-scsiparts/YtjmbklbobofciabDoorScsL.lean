/- plugref's SameDisk; plugkeep's scsiLives. -/
import Derived.Test.YtjmbklbobofciabDoorScsK
namespace Go.Proofs.YtjmbklbobofciabDoor.scsi
open Go.RowKit Go.PlainAid Go.Proofs.YtjmbklbobofciabDoor.lane Go.Proofs.YtjmbklbobofciabDoor.pipe Go.Proofs.YtjmbklbobofciabDoor.strike
set_option linter.unusedVariables false
set_option linter.unusedSimpArgs false
set_option maxRecDepth 100000

set_option maxHeartbeats 2000000 in
theorem same_any (v1 v2 : Value) (l1 l2 : List ByteArray) (s1 s2 : Int) (w : World) (h1 : Rts w v1 l1) (h2 : Rts w v2 l2) :
    Calls Tryd.prog 8 #[dkV v1 s1, dkV v2 s2] w fun e w' => e = .returned (.bool (decide (s1 = s2) && decide (l1 = l2))) ∧ Below w.heap.size w w' := by
  obtain ⟨a1, c1, rfl, _, _⟩ := rts_form h1
  obtain ⟨a2, c2, rfl, _, _⟩ := rts_form h2
  obtain ⟨w1, hw1, hX1, hb1⟩ := dk_named w (.slice a1 l1.length c1) s1
  obtain ⟨w2, hw2, hY2, hb2⟩ := dk_named w1 (.slice a2 l2.length c2) s2
  obtain ⟨⟨_, x0, x1⟩, f0, f1⟩ := boxD (keep hX1 hb2)
  obtain ⟨⟨_, y0, y1⟩, g0, g1⟩ := boxD hY2
  have hb := bsq hb1 hb2
  have HB : Hid (Below w.heap.size w w2) := hb
  have HE : Hid (Calls Tryd.prog 19 #[.slice a1 l1.length c1, .slice a2 l2.length c2] w2 fun e w' => e = .returned (.bool (decide (l1 = l2))) ∧ Below w2.heap.size w2 w') := equalT_any _ _ l1 l2 w2 (h1.below hb) (h2.below hb)
  generalize l1.length = n1 at *
  generalize l2.length = n2 at *
  generalize decide (l1 = l2) = z at *
  clear h1 h2 hX1 hY2 hb1 hb2 hb
  by_cases hs : s1 = s2
  · have e1 : (s1 == s2) = true := by simp [hs]
    rw [decide_eq_true hs, Bool.true_and]
    clear hs
    go_enter Tryd.func8, Tryd.ntmps8
    go_wp2_with fail
    refine HE.out.mono ?_
    rintro e u ⟨rfl, hb⟩
    have HB2 : Hid (Below w.heap.size w u) := bsq HB.out hb
    clear hb HE HB
    go_wp2
    go_ret
    exact ⟨rfl, HB2.out⟩
  · have e1 : (s1 == s2) = false := by simp [hs]
    rw [decide_eq_false hs, Bool.false_and]
    clear hs HE
    go_enter Tryd.func8, Tryd.ntmps8
    go_wp2
    go_ret
    exact ⟨rfl, HB.out⟩
def c37 : ByteArray := ⟨#[37, 0, 0, 0, 0, 0, 0, 0, 0, 0]⟩
def d00 : Dk := ⟨[z16, z16], 0⟩
theorem lives_plain : doD d00 c37 ⟨#[]⟩ = d00 ∧ doT d00 c37 ⟨#[]⟩ = ⟨#[0, 0, 0, 1, 0, 0, 0, 16]⟩ ∧ doC d00 c37 ⟨#[]⟩ = 0 := by
  have hn : nums c37 = [37, 0, 0, 0, 0, 0, 0, 0, 0, 0] := rfl
  have hc : chkC d00 = 0 := by
    rw [chk_iff]
    refine ⟨by decide, by decide, fun x hx => ?_, .inl rfl⟩
    have : x = z16 := by simpa [d00] using hx
    rw [this]; exact z16_size
  have hs : snS d00.b.length (nums c37) (⟨#[]⟩ : ByteArray).size = 0 := by rw [hn]; rfl
  refine ⟨?_, ?_, ?_⟩
  · unfold doD; rw [if_neg (by rw [hc]; decide), if_neg (by rw [hs]; decide), hn]; rfl
  · unfold doT; rw [if_neg (by rw [hc]; decide), if_neg (by rw [hs]; decide), hn]; rfl
  · unfold doC; rw [if_neg (by rw [hc]; decide), if_neg (by rw [hs]; decide)]
set_option maxHeartbeats 2000000 in
theorem lives_any (w : World) : Calls Tryd.prog 5 #[] w fun e w' => e = .returned (.bool true) ∧ Below w.heap.size w w' := by
  have HDO : Hid (∀ v u, Rts u v [z16, z16] → Calls Tryd.prog 6 #[dkV v 0, .string ⟨#[37, 0, 0, 0, 0, 0, 0, 0, 0, 0]⟩, .string ⟨#[]⟩] u fun e w' => ∃ v, e = .returned (.tuple #[dkV v 0, .string ⟨#[0, 0, 0, 1, 0, 0, 0, 16]⟩, .int .i64 0]) ∧ Txs w' u.heap.size v [z16, z16] ∧ Below u.heap.size u w') := fun v u h => by
    have := do_any v d00 c37 ⟨#[]⟩ u h (by decide) (by decide) (by decide)
    unfold DoP at this
    rw [lives_plain.1, lives_plain.2.1, lives_plain.2.2] at this
    exact this
  have HNW : Hid (Calls Tryd.prog 10 #[.int .i64 2] w fun e w' => ∃ v, e = .returned (.tuple #[dkV v 0, .int .i64 0]) ∧ Txs w' w.heap.size v [z16, z16] ∧ Below w.heap.size w w') := new_any 2 w
  go_enter Tryd.func5, Tryd.ntmps5
  go_wp2_with fail
  refine HNW.out.mono ?_
  rintro e u ⟨v, rfl, ht, hb⟩
  obtain ⟨a, c, rfl, _, _⟩ := ht.form
  obtain ⟨u1, uf, hu1, huf, hX1, hXf, hbf⟩ := dk_param u (.slice a [z16, z16].length c) 0
  simp only [List.length_cons, List.length_nil] at huf hXf ht
  obtain ⟨⟨_, x0, x1⟩, f0, f1⟩ := boxD hX1
  obtain ⟨⟨_, y0, y1⟩, g0, g1⟩ := boxD hXf
  have HR : Hid (Rts uf (.slice a 2 c) [z16, z16] ∧ Below w.heap.size w uf ∧ uf.heap[u.heap.size]? = some (dkO (.slice a 2 c) 0) ∧ w.heap.size ≤ u.heap.size) := ⟨ht.rts.below hbf, bsq hb hbf, hXf, hb.size⟩
  clear HNW ht hb hX1 hXf hbf
  go_wp2_with fail
  refine (HDO.out _ _ HR.out.1).mono ?_
  rintro e u2 ⟨v, rfl, ht, hb⟩
  obtain ⟨a', c', rfl, _, _⟩ := ht.form
  have hX2 := keep HR.out.2.2.1 hb
  obtain ⟨⟨_, i0, i1⟩, j0, j1⟩ := boxD hX2
  obtain ⟨vf, hvf, hXf, hBf, hkf, hsf⟩ := dk_put u2 u.heap.size _ _ (.slice a' [z16, z16].length c') 0 hX2
  simp only [List.length_cons, List.length_nil] at hvf hXf
  obtain ⟨⟨_, k0, k1⟩, l0, l1⟩ := boxD hXf
  have HE : Hid (Below w.heap.size w vf) := hBf _ _ HR.out.2.2.2 (bsq HR.out.2.1 hb)
  clear HDO HR ht hb hX2 hXf hBf hkf hsf x0 x1 y0 y1 f0 f1 g0 g1
  go_wp2
  go_ret
  exact ⟨rfl, HE.out⟩
end Go.Proofs.YtjmbklbobofciabDoor.scsi
