/- plugref: DiskRight. -/
import Derived.Test.YtecknicmonhcaaaScsR
namespace Go.Proofs.Ytecknicmonhcaaa.scsi
open Go.RowKit Go.PlainAid Go.Proofs.Ytecknicmonhcaaa.lane Go.Proofs.Ytecknicmonhcaaa.pipe Go.Proofs.Ytecknicmonhcaaa.strike
set_option linter.unusedVariables false
set_option linter.unusedSimpArgs false
set_option maxRecDepth 100000

set_option maxHeartbeats 1000000 in
theorem diskRight_any (x : Value) (l : List ByteArray) (s : Int) (w : World) (h : Rts w x l) : Calls Try.prog 42 #[dkV x s] w fun e w' => e = .returned (.int .i64 (chkC ⟨l, s⟩)) ∧ Below w.heap.size w w' := by
  obtain ⟨uf, huf, hXf, hBf⟩ := dk_named w x s
  obtain ⟨a, c, rfl, hlc, hcm, hc⟩ := (h.below hBf).cell
  have HA : Hid (∀ j x, l[j]? = some x → ∃ g off, a = some ⟨g, off, none⟩ ∧ uf.cell? ⟨g, off + j, none⟩ = some (.string x)) := hc
  have HB : Hid (Below w.heap.size w uf) := hBf
  have HXF : Hid (uf.heap[w.heap.size]? = some (dkO (.slice a l.length c) s)) := hXf
  obtain ⟨⟨hz, x0, x1⟩, f0, f1⟩ := boxD hXf
  unfold maxLen at hcm
  have HIC : Hid (∀ u, Calls Try.prog 28 #[.int .i64 (l.length : Int), .int .i64 1, .int .i64 64] u fun e w' => e = .returned (.bool (decide (1 ≤ (l.length : Int)) && decide ((l.length : Int) ≤ 64))) ∧ u = w') := fun u => between_any _ 1 64 u
  obtain ⟨z, hz⟩ : ∃ z, chkC ⟨l, s⟩ = z := ⟨_, rfl⟩
  have HZ : Hid (chkC ⟨l, s⟩ = z) := hz
  obtain ⟨n, hn⟩ : ∃ n, l.length = n := ⟨_, rfl⟩
  have HN : Hid (l.length = n) := hn
  rw [hn] at hlc x0 huf HIC HXF ⊢
  rw [hz]
  clear hz hn h hc hBf hXf
  by_cases hcnt : ¬ (1 ≤ n ∧ n ≤ 64)
  · have HE : Hid (1 = z) := by
      show _ = _
      rw [← HZ.out]; unfold chkC
      rw [if_pos (by show l.length < 1 ∨ 64 < l.length; rw [HN.out]; omega)]
    have ec : (decide (1 ≤ (n : Int)) && decide ((n : Int) ≤ 64)) = false := by rw [Bool.and_eq_false_iff, decide_eq_false_iff_not, decide_eq_false_iff_not]; omega
    rw [ec] at HIC
    clear ec hcnt
    go_enter Try.func42, Try.ntmps42
    go_wp2_with fail
    refine (HIC.out _).mono ?_
    rintro e u ⟨rfl, rfl⟩
    clear HIC
    go_wp2
    go_ret
    rw [← HE.out]
    exact ⟨rfl, HB.out⟩
  have hcnt := Classical.not_not.1 hcnt
  have ec : (decide (1 ≤ (n : Int)) && decide ((n : Int) ≤ 64)) = true := by rw [Bool.and_eq_true, decide_eq_true_eq, decide_eq_true_eq]; omega
  rw [ec] at HIC
  have HF : Hid ((if (l.all fun y => y.size == 16) = true ∧ snB s = true then 0 else 4) = z) := by
    show _ = _
    have hc2 : ¬ (l.length < 1 ∨ 64 < l.length) := by rw [HN.out]; omega
    rw [← HZ.out]; unfold chkC
    exact (if_neg hc2).symm
  clear ec
  obtain ⟨hn1, hn2⟩ := hcnt
  go_enter Try.func42, Try.ntmps42
  go_wp2_with fail
  refine (HIC.out _).mono ?_
  rintro e u ⟨rfl, rfl⟩
  clear HIC
  go_wp2
  go_loopw [13] (fun i wr => ∃ k : Nat, k ≤ n ∧ i = .int .i64 (k : Int) ∧ uf = wr ∧ Hid ((l.drop k).all (fun y => y.size == 16) = l.all (fun y => y.size == 16))) (fun i _ => n - (intOf i).toNat)
  case atStart => exact ⟨0, Nat.zero_le _, rfl, rfl, rfl⟩
  case round =>
    obtain ⟨k, hk, rfl, rfl, HR⟩ := hrel
    by_cases hlt : ¬ k < n
    · have hR := HR.out
      rw [List.drop_eq_nil_of_le (by have := HN.out; omega)] at hR
      have HG : Hid ((if snB s = true then 0 else 4) = z) := by
        have := HF.out
        rw [← hR] at this
        show _ = _
        simpa using this
      clear HR hR HF HA
      obtain ⟨y1, hy1⟩ : ∃ y1, uf.alloc (.cells #[.int .i64 0, .int .i64 32, .int .i64 33, .int .i64 36] 3) = y1 := ⟨_, rfl⟩
      have hb1 : Below uf.heap.size uf y1 := by rw [← hy1]; exact balloc _ _
      have HC : Hid (Calls Try.prog 62 #[.slice (some ⟨uf.heap.size, 0, none⟩) 4 4, .int .i64 s] y1 fun e w' => e = .returned (.bool (snB s)) ∧ y1 = w') := by
        have := contains_any (.slice (some ⟨uf.heap.size, 0, none⟩) 4 4) [0, 32, 33, 36] s y1 (by rw [← hy1]; exact ixs_laid uf [0, 32, 33, 36] (by decide)) (by decide)
        have e : decide (s ∈ [0, 32, 33, 36]) = snB s := by
          unfold snB; rw [Bool.eq_iff_iff]; simp [or_assoc]
        rw [e] at this
        exact this
      obtain ⟨⟨hz9, p0, p1⟩, p2, p3⟩ := boxD (keep HXF.out hb1)
      have HB2 : Hid (Below w.heap.size w y1) := bsq HB.out hb1
      obtain ⟨q, hq⟩ : ∃ q, snB s = q := ⟨_, rfl⟩
      rw [hq] at HC HG
      clear hb1 hq x0 x1 f0 f1
      go_wp2_with fail
      refine HC.out.mono ?_
      rintro e u ⟨rfl, rfl⟩
      clear HC
      cases q with
      | true =>
        have HE : Hid (0 = z) := HG.out
        clear HG
        go_wp2
        go_ret
        rw [← HE.out]
        exact ⟨rfl, HB2.out⟩
      | false =>
        have HE : Hid (4 = z) := HG.out
        clear HG
        go_wp2
        go_ret
        rw [← HE.out]
        exact ⟨rfl, HB2.out⟩
    · have hlt : k < n := by omega
      have hkl : k < l.length := by have := HN.out; omega
      obtain ⟨y, hy⟩ : ∃ y, l[k]? = some y := ⟨l[k], List.getElem?_eq_getElem hkl⟩
      have hyk : l[k] = y := (List.getElem?_eq_some_iff.1 hy).2
      obtain ⟨g, off, rfl, cx⟩ := HA.out k y hy
      have hR := HR.out
      rw [List.drop_eq_getElem_cons hkl, hyk, List.all_cons] at hR
      by_cases hs : ¬ y.size = 16
      · have HE : Hid (4 = z) := by
          have := HF.out
          rw [← hR, if_neg (by simp [hs])] at this
          exact this
        have e2 : ((y.size : Int) != 16) = true := by rw [bne_iff_ne]; omega
        clear HR hR hy hyk hkl HA HF hs
        go_wp2
        go_ret
        rw [← HE.out]
        exact ⟨rfl, HB.out⟩
      · have hs : y.size = 16 := Classical.not_not.1 hs
        have HR2 : Hid ((l.drop (k + 1)).all (fun y => y.size == 16) = l.all (fun y => y.size == 16)) := by
          show _ = _
          rw [← hR, hs]; simp
        have e2 : ((y.size : Int) != 16) = false := by rw [hs]; rfl
        clear HR hR hy hyk hkl HA HF hs
        go_wp2
        go_roundw
        case rel => exact ⟨k + 1, by omega, by go_num, trivial, HR2.out⟩
        case measure => simp [intOf]; omega
end Go.Proofs.Ytecknicmonhcaaa.scsi
