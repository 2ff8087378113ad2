/- scsi: isCount, form, senseText, begin, Check. -/
import Derived.Test.YtecknicmonhcaabDoorScsC
import Derived.Laws.BytesArg
namespace Go.Proofs.YtecknicmonhcaabDoor.scsi
open Go.RowKit Go.PlainAid Go.Proofs.YtecknicmonhcaabDoor.lane Go.Proofs.YtecknicmonhcaabDoor.pipe Go.Proofs.YtecknicmonhcaabDoor.strike
set_option linter.unusedVariables false
set_option linter.unusedSimpArgs false
set_option maxRecDepth 100000

theorem isCount_any (z : Int) (w : World) : Calls Tryd.prog 46 #[.int .i64 z] w fun e w' => e = .returned (.bool (decide (1 ≤ z) && decide (z ≤ 64))) ∧ w = w' := by
  cases h1 : decide (1 ≤ z)
  · go_enter Tryd.func46, Tryd.ntmps46; go_wp2; go_ret; exact ⟨rfl, rfl⟩
  cases h2 : decide (z ≤ 64) <;> (go_enter Tryd.func46, Tryd.ntmps46; go_wp2; go_ret; exact ⟨rfl, rfl⟩)
theorem str_lit (l : List Int) (a : Array UInt8) (h : (strOfNums l).data = a) : strOfNums l = ⟨a⟩ := by apply ByteArray.ext; exact h
set_option maxHeartbeats 2000000 in
theorem form_any (b : Int) (w : World) : Calls Tryd.prog 65 #[.int .u8 b] w fun e w' => e = .returned (.string (strOfNums (frm b))) ∧ w = w' := by
  by_cases h0 : b = 0
  · subst h0; go_enter Tryd.func65, Tryd.ntmps65; go_wp2; go_ret; exact ⟨rfl, rfl⟩
  by_cases h1 : b = 3
  · subst h1; go_enter Tryd.func65, Tryd.ntmps65; go_wp2; go_ret; exact ⟨rfl, rfl⟩
  by_cases h2 : b = 18
  · subst h2; go_enter Tryd.func65, Tryd.ntmps65; go_wp2; go_ret; exact ⟨rfl, rfl⟩
  by_cases h3 : b = 26
  · subst h3; go_enter Tryd.func65, Tryd.ntmps65; go_wp2; go_ret; exact ⟨rfl, rfl⟩
  by_cases h4 : b = 37
  · subst h4; go_enter Tryd.func65, Tryd.ntmps65; go_wp2; go_ret; exact ⟨rfl, rfl⟩
  by_cases h5 : b = 40
  · subst h5; go_enter Tryd.func65, Tryd.ntmps65; go_wp2; go_ret; exact ⟨rfl, rfl⟩
  by_cases h6 : b = 42
  · subst h6; go_enter Tryd.func65, Tryd.ntmps65; go_wp2; go_ret; exact ⟨rfl, rfl⟩
  by_cases h7 : b = 53
  · subst h7; go_enter Tryd.func65, Tryd.ntmps65; go_wp2; go_ret; exact ⟨rfl, rfl⟩
  have e : frm b = [] := by unfold frm; rw [if_neg h0, if_neg (by omega), if_neg h3, if_neg h4, if_neg (by omega)]
  rw [e]
  have e0 : (b == 0) = false := by simp [h0]
  have e1 : (b == 3) = false := by simp [h1]
  have e2 : (b == 18) = false := by simp [h2]
  have e3 : (b == 26) = false := by simp [h3]
  have e4 : (b == 37) = false := by simp [h4]
  have e5 : (b == 40) = false := by simp [h5]
  have e6 : (b == 42) = false := by simp [h6]
  have e7 : (b == 53) = false := by simp [h7]
  clear h0 h1 h2 h3 h4 h5 h6 h7 e
  go_enter Tryd.func65, Tryd.ntmps65
  go_wp2
  go_ret
  exact ⟨rfl, rfl⟩
def senR (s : Int) : Prop := s = 0 ∨ s = 32 ∨ s = 33 ∨ s = 36
/-- bytes that were laid down, as a text -/
theorem bytes_laid (w : World) (l : List Int) : (convert 26 9 (.slice (some ⟨w.heap.size, 0, none⟩) l.length l.length)).run Tryd.prog (w.alloc (.cells (l.map (Value.int .u8)).toArray 5)) = .ok (.string (strOfNums l)) (w.alloc (.cells (l.map (Value.int .u8)).toArray 5)) := by
  refine run_convert_bytes_arg _ 26 5 Tryd.underlying26 Tryd.underlying5 w.heap.size 0 l.length l.length l rfl ?_ 9 Tryd.underlying9
  intro i hi
  rw [Nat.zero_add, cell_of_row _ _ _ _ _ (0, 0) (MapKept.heap_alloc w _).1]
  simp [List.getD, List.getElem?_eq_getElem hi]
theorem bytes_named (w : World) (l : List Int) (cs : Array Value) (hc : (l.map (Value.int .u8)).toArray = cs) : ∃ w1, w.alloc (.cells cs 5) = w1 ∧ (convert 26 9 (.slice (some ⟨w.heap.size, 0, none⟩) l.length l.length)).run Tryd.prog w1 = .ok (.string (strOfNums l)) w1 ∧ Below w.heap.size w w1 := by
  subst hc
  exact ⟨_, rfl, bytes_laid w l, balloc _ _⟩
set_option maxHeartbeats 2000000 in
theorem senseText_any (s : Int) (w : World) (h : senR s) : Calls Tryd.prog 51 #[.int .i64 s] w fun e w' => e = .returned (.string (strOfNums (senL s))) ∧ Below w.heap.size w w' := by
  obtain ⟨w1, hw1, hcv, hb⟩ := bytes_named w (senL s) _ rfl
  have HB : Hid (Below w.heap.size w w1) := hb
  clear hb
  rcases h with rfl | rfl | rfl | rfl
  · have e : senL 0 = [112, 0, 0, 0, 0, 0, 0, 10, 0, 0, 0, 0, 0, 0, 0, 0, 0, 0] := rfl
    rw [e] at hw1 hcv ⊢
    simp only [List.map_cons, List.map_nil, List.length_cons, List.length_nil] at hw1 hcv
    generalize strOfNums [112, 0, 0, 0, 0, 0, 0, 10, 0, 0, 0, 0, 0, 0, 0, 0, 0, 0] = y at hcv ⊢
    clear e
    go_enter Tryd.func51, Tryd.ntmps51
    go_wp2
    go_ret
    exact ⟨rfl, HB.out⟩
  · have e : senL 32 = [112, 0, 5, 0, 0, 0, 0, 10, 0, 0, 0, 0, 32, 0, 0, 0, 0, 0] := rfl
    rw [e] at hw1 hcv ⊢
    simp only [List.map_cons, List.map_nil, List.length_cons, List.length_nil] at hw1 hcv
    generalize strOfNums [112, 0, 5, 0, 0, 0, 0, 10, 0, 0, 0, 0, 32, 0, 0, 0, 0, 0] = y at hcv ⊢
    clear e
    go_enter Tryd.func51, Tryd.ntmps51
    go_wp2
    go_ret
    exact ⟨rfl, HB.out⟩
  · have e : senL 33 = [112, 0, 5, 0, 0, 0, 0, 10, 0, 0, 0, 0, 33, 0, 0, 0, 0, 0] := rfl
    rw [e] at hw1 hcv ⊢
    simp only [List.map_cons, List.map_nil, List.length_cons, List.length_nil] at hw1 hcv
    generalize strOfNums [112, 0, 5, 0, 0, 0, 0, 10, 0, 0, 0, 0, 33, 0, 0, 0, 0, 0] = y at hcv ⊢
    clear e
    go_enter Tryd.func51, Tryd.ntmps51
    go_wp2
    go_ret
    exact ⟨rfl, HB.out⟩
  · have e : senL 36 = [112, 0, 5, 0, 0, 0, 0, 10, 0, 0, 0, 0, 36, 0, 0, 0, 0, 0] := rfl
    rw [e] at hw1 hcv ⊢
    simp only [List.map_cons, List.map_nil, List.length_cons, List.length_nil] at hw1 hcv
    generalize strOfNums [112, 0, 5, 0, 0, 0, 0, 10, 0, 0, 0, 0, 36, 0, 0, 0, 0, 0] = y at hcv ⊢
    clear e
    go_enter Tryd.func51, Tryd.ntmps51
    go_wp2
    go_ret
    exact ⟨rfl, HB.out⟩
theorem ext_take (l : List Int) (n : Nat) (hb : Byt l) : (strOfNums l).extract 0 n = strOfNums (l.take n) := by
  apply ext_list
  rw [ex_list, List.drop_zero, strOfNums_data, strOfNums_data, List.map_take]; rfl
set_option maxHeartbeats 1000000 in
theorem begin_any (l : List Int) (c : ByteArray) (w : World) (hc : 4 < c.size) (hcm : c.size ≤ maxLen) (hl : l.length ≤ 1000) (hb : Byt l) :
    Calls Tryd.prog 50 #[.string (strOfNums l), .string c] w fun e w' => e = .returned (.string (strOfNums (l.take ((nums c).getD 4 0).toNat))) ∧ w = w' := by
  have e : (nums c).getD 4 0 = bt c 4 := (bt_nums c 4 hc).symm
  rw [e]
  obtain ⟨h0, h1⟩ := bt_range c 4
  have hsz : (strOfNums l).size = l.length := str_size l
  have hx : ∀ n, (strOfNums l).extract 0 n = strOfNums (l.take n) := fun n => ext_take l n hb
  have hm : l.take (bt c 4).toNat = l.take (min (bt c 4).toNat l.length) := by rw [List.take_eq_take_iff]; omega
  rw [hm, ← hx]
  have HC : Hid ((bt c 4).toNat = (bt c 4)) := Int.toNat_of_nonneg h0
  obtain ⟨q, hq⟩ : ∃ q : Nat, (bt c 4).toNat = q := ⟨_, rfl⟩
  have hq2 : bt c 4 = (q : Int) := by omega
  have hq3 : q ≤ 255 := by omega
  rw [hq]
  generalize strOfNums l = a at hsz ⊢
  rw [← hsz] at hl ⊢
  unfold maxLen at hcm
  clear HC hm hx hsz h0 h1 e hq hb
  have hbt := get_bt c
  by_cases hlt : ¬ a.size < q
  · have e2 : min q a.size = q := by omega
    rw [e2]
    clear e2
    go_enter Tryd.func50, Tryd.ntmps50
    go_wp2
    go_ret
    exact ⟨rfl, rfl⟩
  · have e2 : min q a.size = a.size := by omega
    have e3 : a.extract 0 a.size = a := by simp
    rw [e2, e3]
    clear e2 e3
    go_enter Tryd.func50, Tryd.ntmps50
    go_wp2
    go_ret
    exact ⟨rfl, rfl⟩
set_option maxHeartbeats 1000000 in
theorem check_any (x : Value) (l : List ByteArray) (s : Int) (w : World) (h : Rts w x l) : Calls Tryd.prog 31 #[dkV x s] w fun e w' => e = .returned (.int .i64 (chkC ⟨l, s⟩)) ∧ Below w.heap.size w w' := by
  obtain ⟨uf, huf, hXf, hBf⟩ := dk_named w x s
  obtain ⟨a, c, rfl, hlc, hcm, hc⟩ := (h.below hBf).cell
  have HA : Hid (∀ j x, l[j]? = some x → ∃ g off, a = some ⟨g, off, none⟩ ∧ uf.cell? ⟨g, off + j, none⟩ = some (.string x)) := hc
  have HB : Hid (Below w.heap.size w uf) := hBf
  obtain ⟨⟨hz, x0, x1⟩, f0, f1⟩ := boxD hXf
  unfold maxLen at hcm
  have HIC : Hid (∀ u, Calls Tryd.prog 46 #[.int .i64 (l.length : Int)] u fun e w' => e = .returned (.bool (decide (1 ≤ (l.length : Int)) && decide ((l.length : Int) ≤ 64))) ∧ u = w') := fun u => isCount_any _ u
  obtain ⟨z, hz⟩ : ∃ z, chkC ⟨l, s⟩ = z := ⟨_, rfl⟩
  have HZ : Hid (chkC ⟨l, s⟩ = z) := hz
  obtain ⟨n, hn⟩ : ∃ n, l.length = n := ⟨_, rfl⟩
  have HN : Hid (l.length = n) := hn
  rw [hn] at hlc x0 huf HIC ⊢
  rw [hz]
  clear hz hn h hc hBf hXf
  by_cases hcnt : ¬ (1 ≤ n ∧ n ≤ 64)
  · have HE : Hid (1 = z) := by
      show _ = _
      rw [← HZ.out]; unfold chkC
      rw [if_pos (by show l.length < 1 ∨ 64 < l.length; rw [HN.out]; omega)]
    have ec : (decide (1 ≤ (n : Int)) && decide ((n : Int) ≤ 64)) = false := by rw [Bool.and_eq_false_iff, decide_eq_false_iff_not, decide_eq_false_iff_not]; omega
    rw [ec] at HIC
    clear ec hcnt
    go_enter Tryd.func31, Tryd.ntmps31
    go_wp2_with fail
    refine (HIC.out _).mono ?_
    rintro e u ⟨rfl, rfl⟩
    clear HIC
    go_wp2
    go_ret
    rw [← HE.out]
    exact ⟨rfl, HB.out⟩
  have hcnt := Classical.not_not.1 hcnt
  have ec : (decide (1 ≤ (n : Int)) && decide ((n : Int) ≤ 64)) = true := by rw [Bool.and_eq_true, decide_eq_true_eq, decide_eq_true_eq]; omega
  rw [ec] at HIC
  have HF : Hid ((if (l.all fun y => y.size == 16) = true ∧ snB s = true then 0 else 4) = z) := by
    show _ = _
    have hc2 : ¬ (l.length < 1 ∨ 64 < l.length) := by rw [HN.out]; omega
    rw [← HZ.out]; unfold chkC
    exact (if_neg hc2).symm
  clear ec
  obtain ⟨hn1, hn2⟩ := hcnt
  go_enter Tryd.func31, Tryd.ntmps31
  go_wp2_with fail
  refine (HIC.out _).mono ?_
  rintro e u ⟨rfl, rfl⟩
  clear HIC
  go_wp2
  go_loopw [13] (fun i wr => ∃ k : Nat, k ≤ n ∧ i = .int .i64 (k : Int) ∧ uf = wr ∧ Hid ((l.drop k).all (fun y => y.size == 16) = l.all (fun y => y.size == 16))) (fun i _ => n - (intOf i).toNat)
  case atStart => exact ⟨0, Nat.zero_le _, rfl, rfl, rfl⟩
  case round =>
    obtain ⟨k, hk, rfl, rfl, HR⟩ := hrel
    by_cases hlt : ¬ k < n
    · have hR := HR.out
      rw [List.drop_eq_nil_of_le (by have := HN.out; omega)] at hR
      have HG : Hid ((if snB s = true then 0 else 4) = z) := by
        have := HF.out
        rw [← hR] at this
        show _ = _
        simpa using this
      clear HR hR HF HA
      by_cases q0 : s = 0
      · subst q0
        have HE : Hid (0 = z) := HG.out
        clear HG
        go_wp2
        go_ret
        rw [← HE.out]
        exact ⟨rfl, HB.out⟩
      by_cases q1 : s = 32
      · subst q1
        have HE : Hid (0 = z) := HG.out
        clear HG
        go_wp2
        go_ret
        rw [← HE.out]
        exact ⟨rfl, HB.out⟩
      by_cases q2 : s = 33
      · subst q2
        have HE : Hid (0 = z) := HG.out
        clear HG
        go_wp2
        go_ret
        rw [← HE.out]
        exact ⟨rfl, HB.out⟩
      by_cases q3 : s = 36
      · subst q3
        have HE : Hid (0 = z) := HG.out
        clear HG
        go_wp2
        go_ret
        rw [← HE.out]
        exact ⟨rfl, HB.out⟩
      have e0 : (s == 0) = false := by simp [q0]
      have e1 : (s == 32) = false := by simp [q1]
      have e2 : (s == 33) = false := by simp [q2]
      have e3 : (s == 36) = false := by simp [q3]
      have HE : Hid (4 = z) := by
        have := HG.out
        unfold snB at this
        rw [e0, e1, e2, e3] at this
        exact this
      clear HG q0 q1 q2 q3
      go_wp2
      go_ret
      rw [← HE.out]
      exact ⟨rfl, HB.out⟩
    · have hlt : k < n := by omega
      have hkl : k < l.length := by have := HN.out; omega
      obtain ⟨y, hy⟩ : ∃ y, l[k]? = some y := ⟨l[k], List.getElem?_eq_getElem hkl⟩
      have hyk : l[k] = y := (List.getElem?_eq_some_iff.1 hy).2
      obtain ⟨g, off, rfl, cx⟩ := HA.out k y hy
      have hR := HR.out
      rw [List.drop_eq_getElem_cons hkl, hyk, List.all_cons] at hR
      by_cases hs : ¬ y.size = 16
      · have HE : Hid (4 = z) := by
          have := HF.out
          rw [← hR, if_neg (by simp [hs])] at this
          exact this
        have e2 : ((y.size : Int) != 16) = true := by rw [bne_iff_ne]; omega
        clear HR hR hy hyk hkl HA HF hs
        go_wp2
        go_ret
        rw [← HE.out]
        exact ⟨rfl, HB.out⟩
      · have hs : y.size = 16 := Classical.not_not.1 hs
        have HR2 : Hid ((l.drop (k + 1)).all (fun y => y.size == 16) = l.all (fun y => y.size == 16)) := by
          show _ = _
          rw [← hR, hs]; simp
        have e2 : ((y.size : Int) != 16) = false := by rw [hs]; rfl
        clear HR hR hy hyk hkl HA HF hs
        go_wp2
        go_roundw
        case rel => exact ⟨k + 1, by omega, by go_num, trivial, HR2.out⟩
        case measure => simp [intOf]; omega
end Go.Proofs.YtecknicmonhcaabDoor.scsi
