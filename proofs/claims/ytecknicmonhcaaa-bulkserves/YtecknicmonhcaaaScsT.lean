/- plugref: Sensed. -/
import Derived.Test.YtecknicmonhcaaaScsS
import Derived.BigQuiet
import Derived.Laws.RangeString
namespace Go.Proofs.Ytecknicmonhcaaa.scsi
open Go.RowKit Go.PlainAid Go.Proofs.Ytecknicmonhcaaa.lane Go.Proofs.Ytecknicmonhcaaa.pipe Go.Proofs.Ytecknicmonhcaaa.strike
set_option linter.unusedVariables false
set_option linter.unusedSimpArgs false
set_option maxRecDepth 100000

def itAt (w : World) (B : Nat) : Nat := match w.heap[B]? with
  | some (.stringIter _ p) => p
  | _ => 0
theorem itAt_iter (u : World) (s : ByteArray) (k : Nat) : itAt (u.iter s k) u.heap.size = k := by unfold itAt; rw [World.iter_heap]
theorem mok2_step {M R : List Int} {k : Nat} (h1 : k < M.length) (h2 : k < R.length) : mok2 (M.drop k) (R.drop k) = (mok (M.getD k 0) (R.getD k 0) && mok2 (M.drop (k + 1)) (R.drop (k + 1))) := by
  rw [List.drop_eq_getElem_cons h1, List.drop_eq_getElem_cons h2]
  simp [mok2, List.getD, List.getElem?_eq_getElem h1, List.getElem?_eq_getElem h2]
def seA (n : Nat) (c : ByteArray) (z : Nat) : Int := if snS n (nums c) z = 0 ∧ opB ((nums c).getD 0 0) = true then lbaL (nums c) else 0
def seB (n : Nat) (c : ByteArray) (z : Nat) : Int := if snS n (nums c) z = 0 ∧ opB ((nums c).getD 0 0) = true then cntL (nums c) else 0
theorem se_no {n : Nat} {c : ByteArray} {z : Nat} (h : snS n (nums c) z ≠ 0) : seA n c z = 0 ∧ seB n c z = 0 := ⟨if_neg fun q => h q.1, if_neg fun q => h q.1⟩
theorem sn_bad {n : Nat} {L : List Int} {z : Nat} (h : fmC L ≠ 0) : snS n L z = fmC L := by unfold snS; rw [if_pos h]
theorem c_empty {c : ByteArray} (h : c.size = 0) : c = ⟨#[]⟩ := by apply ByteArray.ext; apply Array.eq_empty_of_size_eq_zero; exact h
theorem msk_op (b : Int) (h : msk b ≠ []) : (b = 0 ∨ b = 3 ∨ b = 18 ∨ b = 26 ∨ b = 37 ∨ opB b = true) := by
  unfold msk at h
  split at h
  · omega
  · split at h
    · omega
    · split at h
      · omega
      · split at h
        · omega
        · split at h
          · rename_i q; have := (op_iff b).2 q; simp [this]
          · exact absurd rfl h
theorem msk_six {b : Int} (h0 : msk b ≠ []) (h : opB b = false) : (msk b).length = 6 ∨ b = 37 := by
  rcases msk_op b h0 with rfl | rfl | rfl | rfl | rfl | q
  · exact .inl rfl
  · exact .inl rfl
  · exact .inl rfl
  · exact .inl rfl
  · exact .inr rfl
  · rw [q] at h; cases h
theorem msk_ten {b : Int} (h : opB b = true) : (msk b).length = 10 ∧ b ≠ 37 ∧ b ≠ 26 := by
  rcases (op_iff b).1 h with rfl | rfl | rfl <;> exact ⟨rfl, by decide, by decide⟩
theorem se_none {n : Nat} {c : ByteArray} {z : Nat} (h : opB ((nums c).getD 0 0) = false) : seA n c z = 0 ∧ seB n c z = 0 := by
  refine ⟨if_neg fun q => ?_, if_neg fun q => ?_⟩ <;> (rw [h] at q; cases q.2)
set_option maxHeartbeats 8000000 in
theorem sensed_any (v : Value) (b : List ByteArray) (s : Int) (c x : ByteArray) (w : World) (hp : Rts w v b) (hcm : c.size ≤ maxLen) (hx : x.size ≤ maxLen) (hn64 : b.length ≤ 64) :
    Calls Try.prog 63 #[dkV v s, .string c, .string x] w fun e w' => e = .returned (.tuple #[.int .i64 (snS b.length (nums c) x.size), .int .i64 (seA b.length c x.size), .int .i64 (seB b.length c x.size)]) ∧ Below w.heap.size w w' := by
  obtain ⟨va, vc, rfl, _, _⟩ := rts_form hp
  obtain ⟨u0, hu0, hX0, hb0⟩ := dk_named w (.slice va b.length vc) s
  obtain ⟨⟨hzz, x0, x1⟩, f0, f1⟩ := boxD hX0
  have HX : Hid (u0.heap[w.heap.size]? = some (dkO (.slice va b.length vc) s) ∧ Below w.heap.size w u0) := ⟨hX0, hb0⟩
  clear hp hX0 hb0
  obtain ⟨n, hn⟩ : ∃ n, b.length = n := ⟨_, rfl⟩
  rw [hn] at HX hu0 x0 hn64 ⊢
  clear hn
  unfold maxLen at hcm hx
  by_cases hc : c.size = 0
  · have he := c_empty hc
    subst he
    have e1 : snS n (nums ⟨#[]⟩) x.size = 32 := rfl
    have e2 := se_no (n := n) (c := ⟨#[]⟩) (z := x.size) (by rw [e1]; decide)
    rw [e1, e2.1, e2.2]
    clear e1 e2 hc hcm
    go_enter Try.func63, Try.ntmps63
    go_wp2
    exact bodyPost_ret (v := .tuple #[.int .i64 32, .int .i64 0, .int .i64 0]) (by simp [results, Try.results63, go_sem]) rfl ⟨rfl, HX.out.2⟩
  have hc : 0 < c.size := by omega
  have hes : c.toList.isEmpty = false := str_full c hc
  have hbt := get_bt c
  have hop0 : (nums c).getD 0 0 = bt c 0 := (bt_nums c 0 hc).symm
  have hrf := fm_ref (nums c) (nums_byt c)
  have hne : nums c ≠ [] := fun q => by have := nums_length c; rw [q] at this; simp at this; omega
  have hlen := nums_length c
  have HMK : Hid (∀ u, Calls Try.prog 82 #[.int .u8 (bt c 0)] u fun e w' => e = .returned (.string (strOfNums (msk (bt c 0)))) ∧ u = w') := fun u => mask_any _ u
  unfold rfC at hrf
  rw [hop0] at hrf
  have hml := msk_len (bt c 0)
  have hmb := msk_byt (bt c 0)
  obtain ⟨M, hM⟩ : ∃ M, msk (bt c 0) = M := ⟨_, rfl⟩
  rw [hM] at hrf HMK hml hmb
  by_cases hM0 : M = []
  · subst hM0
    rw [if_pos (.inr rfl)] at hrf
    have e1 : snS n (nums c) x.size = 32 := (sn_bad (by rw [hrf]; decide)).trans hrf
    have e2 := se_no (n := n) (c := c) (z := x.size) (by rw [e1]; decide)
    rw [e1, e2.1, e2.2]
    have e : strOfNums [] = ⟨#[]⟩ := rfl
    rw [e] at HMK
    clear e e1 e2 hrf hml hmb hM hne hlen hop0
    go_enter Try.func63, Try.ntmps63
    go_wp2_with fail
    refine (HMK.out _).mono ?_
    rintro e u ⟨rfl, rfl⟩
    clear HMK
    go_wp2
    exact bodyPost_ret (v := .tuple #[.int .i64 32, .int .i64 0, .int .i64 0]) (by simp [results, Try.results63, go_sem]) rfl ⟨rfl, HX.out.2⟩
  rw [if_neg (fun q => by rcases q with q | q; exact hne q; exact hM0 q)] at hrf
  have hM1 : 0 < M.length := List.length_pos_iff.2 hM0
  have hms : (strOfNums M).size = M.length := str_size M
  have hme : (strOfNums M).toList.isEmpty = false := str_full _ (by omega)
  have hmt := get_bt (strOfNums M)
  have HMT : Hid (∀ k, k < M.length → bt (strOfNums M) k = M.getD k 0 ∧ M.getD k 0 < 128 ∧ 0 ≤ M.getD k 0) := fun k hk => by
    have e : M.getD k 0 = M[k] := by simp [List.getD, List.getElem?_eq_getElem hk]
    refine ⟨by rw [bt_nums _ _ (by omega), nums_str M hmb.1], ?_, ?_⟩
    · rw [e]; exact hmb.2 _ (List.getElem_mem hk)
    · rw [e]; exact (hmb.1 _ (List.getElem_mem hk)).1
  generalize strOfNums M = m at *
  by_cases hl : M.length ≠ (nums c).length
  · rw [if_pos hl] at hrf
    have e1 : snS n (nums c) x.size = 36 := (sn_bad (by rw [hrf]; decide)).trans hrf
    have e2 := se_no (n := n) (c := c) (z := x.size) (by rw [e1]; decide)
    rw [e1, e2.1, e2.2]
    have d1 : ((m.size : Int) != (c.size : Int)) = true := by rw [bne_iff_ne]; omega
    clear e1 e2 hrf hml hmb hM hne hlen hop0 hl HMT
    go_enter Try.func63, Try.ntmps63
    go_wp2_with fail
    refine (HMK.out _).mono ?_
    rintro e u ⟨rfl, rfl⟩
    go_wp2_with fail
    refine (HMK.out _).mono ?_
    rintro e u ⟨rfl, rfl⟩
    clear HMK
    go_wp2
    exact bodyPost_ret (v := .tuple #[.int .i64 36, .int .i64 0, .int .i64 0]) (by simp [results, Try.results63, go_sem]) rfl ⟨rfl, HX.out.2⟩
  have hl : M.length = (nums c).length := Classical.not_not.1 hl
  rw [if_neg (fun q => q hl)] at hrf
  have d1 : ((m.size : Int) != (c.size : Int)) = false := by rw [bne_eq_false_iff_eq]; omega
  have HL : Hid (M.length = m.size ∧ (nums c).length = m.size) := ⟨hms.symm, by omega⟩
  have hcs : c.size = m.size := by omega
  have hc610 : m.size = 6 ∨ m.size = 10 := by omega
  have HFM : Hid (fmC (nums c) = if mok2 (List.drop 1 M) (List.drop 1 (nums c)) = false then 36 else if bt c 0 = 26 ∧ (nums c).getD 2 0 ≠ 63 then 36 else 0) := hrf
  have hg := fun k => getD_range c k
  obtain ⟨Z, hZ⟩ : ∃ Z, mok2 (List.drop 1 M) (List.drop 1 (nums c)) = Z := ⟨_, rfl⟩
  rw [hZ] at HFM
  have HZ : Hid (mok2 (List.drop 1 M) (List.drop 1 (nums c)) = Z) := hZ
  have HOP : Hid ((nums c).getD 0 0 = bt c 0 ∧ msk (bt c 0) = M) := ⟨hop0, hM⟩
  have HBT : Hid (∀ k, k < c.size → bt c k = (nums c).getD k 0) := fun k hk => bt_nums c k hk
  obtain ⟨Q1, hQ1⟩ : ∃ Q, snS n (nums c) x.size = Q := ⟨_, rfl⟩
  obtain ⟨Q2, hQ2⟩ : ∃ Q, seA n c x.size = Q := ⟨_, rfl⟩
  obtain ⟨Q3, hQ3⟩ : ∃ Q, seB n c x.size = Q := ⟨_, rfl⟩
  have HQ : Hid (snS n (nums c) x.size = Q1 ∧ seA n c x.size = Q2 ∧ seB n c x.size = Q3) := ⟨hQ1, hQ2, hQ3⟩
  have H36 : Hid (fmC (nums c) = 36 → Q1 = 36 ∧ Q2 = 0 ∧ Q3 = 0) := fun h => by
    have e1 : snS n (nums c) x.size = 36 := (sn_bad (by rw [h]; decide)).trans h
    have e2 := se_no (n := n) (c := c) (z := x.size) (by rw [e1]; decide)
    exact ⟨hQ1.symm.trans e1, hQ2.symm.trans e2.1, hQ3.symm.trans e2.2⟩
  rw [hQ1, hQ2, hQ3]
  clear hrf hml hmb hM hne hlen hop0 hl hM0 hM1 hms hZ hQ1 hQ2 hQ3 hg
  go_enter Try.func63, Try.ntmps63
  go_wp2_with fail
  refine (HMK.out _).mono ?_
  rintro e u ⟨rfl, rfl⟩
  go_wp2_with fail
  refine (HMK.out _).mono ?_
  rintro e u ⟨rfl, rfl⟩
  clear HMK d1 hme hes
  go_wp2
  have HIT : Hid (∀ k, Below w.heap.size w (u0.iter m k) ∧ (u0.iter m k).heap[w.heap.size]? = some (dkO (.slice va n vc) s)) := fun k => ⟨bsq HX.out.2 (balloc _ _), keep HX.out.1 (balloc _ _)⟩
  go_loopw [10] (fun _ wr => ∃ k : Nat, k ≤ m.size ∧ wr = u0.iter m k ∧ Hid (mok2 (M.drop (max k 1)) ((nums c).drop (max k 1)) = Z)) (fun _ wr => m.size - itAt wr u0.heap.size)
  case atStart => exact ⟨0, Nat.zero_le _, rfl, HZ.out⟩
  case round =>
    obtain ⟨k, hk, rfl, HR⟩ := hrel
    by_cases hlt : ¬ k < m.size
    · obtain rfl : k = m.size := by omega
      have hnx : ∀ ty, (Instr.next (.pointer (some ⟨u0.heap.size, 0, none⟩)) true ty).run Try.prog (u0.iter m m.size) = .ok (.tuple #[.bool false]) (u0.iter m m.size) := fun ty => run_next_end u0 m m.size ty hlt
      have hZt : true = Z := by
        rw [← HR.out, List.drop_eq_nil_of_le (by have := HL.out; omega)]; rfl
      subst hZt
      have HF2 : Hid (fmC (nums c) = if bt c 0 = 26 ∧ (nums c).getD 2 0 ≠ 63 then 36 else 0) := by
        have := HFM.out
        rw [if_neg (by decide)] at this
        exact this
      obtain ⟨⟨hz9, p0, p1⟩, p2, p3⟩ := boxD (HIT.out m.size).2
      clear HR HZ HFM HMT hmt x0 x1 f0 f1
      have h2c : 2 < c.size := by omega
      have hB2 := HBT.out 2 h2c
      have HFN : Hid (fmC (nums c) = 0 → snS n (nums c) x.size = if opB (bt c 0) = true then (if (n : Int) < lbaL (nums c) + cntL (nums c) then 33 else if bt c 0 = 42 ∧ (x.size : Int) ≠ 16 * cntL (nums c) then 36 else 0) else 0) := fun h => by
        unfold snS; rw [if_neg (by rw [h]; decide), HOP.out.1]
      by_cases h26 : bt c 0 = 26 ∧ bt c 2 ≠ 63
      · have HG : Hid (Q1 = 36 ∧ Q2 = 0 ∧ Q3 = 0) := H36.out (by rw [HF2.out, ← hB2, if_pos h26])
        obtain ⟨g1, g2⟩ := h26
        have g3 : (bt c 2 != 63) = true := by rw [bne_iff_ne]; exact g2
        clear HF2 HFN g2 hB2
        go_wp2
        exact bodyPost_ret (v := .tuple #[.int .i64 36, .int .i64 0, .int .i64 0]) (by simp [results, Try.results63, go_sem]) rfl ⟨by rw [HG.out.1, HG.out.2.1, HG.out.2.2], (HIT.out _).1⟩
      have hfm : fmC (nums c) = 0 := by rw [HF2.out, ← hB2, if_neg h26]
      have hsn := HFN.out hfm
      by_cases hopb : opB (bt c 0) = false
      · have HG : Hid (Q1 = 0 ∧ Q2 = 0 ∧ Q3 = 0) := by
          rw [hopb, if_neg (by decide)] at hsn
          have hs := se_none (n := n) (c := c) (z := x.size) (by rw [HOP.out.1]; exact hopb)
          exact ⟨HQ.out.1.symm.trans hsn, HQ.out.2.1.symm.trans hs.1, HQ.out.2.2.symm.trans hs.2⟩
        have h6 : m.size = 6 ∨ bt c 0 = 37 := by
          have h1 := HOP.out.2
          have h2 := HL.out.1
          have := msk_six (b := bt c 0) (by rw [h1]; intro q; rw [q] at h2; simp at h2; omega) hopb
          rw [h1] at this
          omega
        have g26 : (bt c 0 == 26 && bt c 2 != 63) = false := by
          rw [Bool.and_eq_false_iff]
          by_cases q : bt c 0 = 26
          · right; rw [bne_eq_false_iff_eq]; exact Classical.not_not.1 fun r => h26 ⟨q, r⟩
          · left; simp [q]
        clear HF2 HFN hsn hfm hopb hB2 h26
        rcases h6 with h6 | h6
        · have h6c : ((m.size : Int) == 6) = true := by rw [h6]; rfl
          clear h6
          by_cases q26 : bt c 0 = 26
          · rw [q26] at g26
            have g2 : (bt c 2 != 63) = false := by simpa using g26
            clear g26
            go_wp2
            exact bodyPost_ret (v := .tuple #[.int .i64 0, .int .i64 0, .int .i64 0]) (by simp [results, Try.results63, go_sem]) rfl ⟨by rw [HG.out.1, HG.out.2.1, HG.out.2.2], (HIT.out _).1⟩
          · have g1 : (bt c 0 == 26) = false := by simp [q26]
            clear g26 q26
            go_wp2
            exact bodyPost_ret (v := .tuple #[.int .i64 0, .int .i64 0, .int .i64 0]) (by simp [results, Try.results63, go_sem]) rfl ⟨by rw [HG.out.1, HG.out.2.1, HG.out.2.2], (HIT.out _).1⟩
        · have h6c : ((m.size : Int) == 6) = false := by
            have h1 := HOP.out.2
            have h2 := HL.out.1
            rw [h6] at h1
            rw [← h2, ← h1]; rfl
          clear g26
          go_wp2
          exact bodyPost_ret (v := .tuple #[.int .i64 0, .int .i64 0, .int .i64 0]) (by simp [results, Try.results63, go_sem]) rfl ⟨by rw [HG.out.1, HG.out.2.1, HG.out.2.2], (HIT.out _).1⟩
      have hopb : opB (bt c 0) = true := by cases q : opB (bt c 0) with | true => rfl | false => exact absurd q hopb
      obtain ⟨t10, n37, n26⟩ := msk_ten hopb
      rw [hopb, if_pos rfl] at hsn
      have h10 : m.size = 10 := by rw [← HL.out.1, ← HOP.out.2]; exact t10
      have hc10 : c.size = 10 := by omega
      have h6c : ((m.size : Int) == 6) = false := by rw [h10]; rfl
      have g26 : (bt c 0 == 26) = false := by simp [n26]
      have g37 : (bt c 0 == 37) = false := by simp [n37]
      have HLB : Hid (lbaL (nums c) = ((bt c 2 * 256 + bt c 3) * 256 + bt c 4) * 256 + bt c 5 ∧ cntL (nums c) = bt c 7 * 256 + bt c 8) := by
        rw [HBT.out 2 (by omega), HBT.out 3 (by omega), HBT.out 4 (by omega), HBT.out 5 (by omega), HBT.out 7 (by omega), HBT.out 8 (by omega)]
        exact ⟨rfl, rfl⟩
      have HSN : Hid (Q1 = (if (n : Int) < lbaL (nums c) + cntL (nums c) then 33 else if bt c 0 = 42 ∧ (x.size : Int) ≠ 16 * cntL (nums c) then 36 else 0)) := HQ.out.1.symm.trans hsn
      have HAB : Hid (Q1 = 0 → Q2 = lbaL (nums c) ∧ Q3 = cntL (nums c)) := fun q => by
        have h1 := HQ.out
        refine ⟨h1.2.1.symm.trans (if_pos ⟨h1.1.trans q, ?_⟩), h1.2.2.symm.trans (if_pos ⟨h1.1.trans q, ?_⟩)⟩ <;> (rw [HOP.out.1]; exact hopb)
      have HNO : Hid (Q1 ≠ 0 → Q2 = 0 ∧ Q3 = 0) := fun q => by
        have h1 := HQ.out
        have h2 := se_no (n := n) (c := c) (z := x.size) (by rw [h1.1]; exact q)
        exact ⟨h1.2.1.symm.trans h2.1, h1.2.2.symm.trans h2.2⟩
      rw [HLB.out.1, HLB.out.2] at HSN HAB
      have bb := fun k => bt_range c k
      obtain ⟨⟨b20, b21⟩, ⟨b30, b31⟩, ⟨b40, b41⟩, ⟨b50, b51⟩, ⟨b70, b71⟩, ⟨b80, b81⟩⟩ : (0 ≤ bt c 2 ∧ bt c 2 ≤ 255) ∧ (0 ≤ bt c 3 ∧ bt c 3 ≤ 255) ∧ (0 ≤ bt c 4 ∧ bt c 4 ≤ 255) ∧ (0 ≤ bt c 5 ∧ bt c 5 ≤ 255) ∧ (0 ≤ bt c 7 ∧ bt c 7 ≤ 255) ∧ (0 ≤ bt c 8 ∧ bt c 8 ≤ 255) := ⟨bb 2, bb 3, bb 4, bb 5, bb 7, bb 8⟩
      clear HF2 HFN hsn hfm hopb hB2 h26 HQ H36 HBT HOP HL HLB t10 n37 n26 bb h10
      go_wp2_with fail
      go_quiet (fail)
      obtain ⟨y0, hy0⟩ : ∃ y0, (u0.iter m m.size).drewN nq = y0 := ⟨_, rfl⟩
      rw [hy0]
      have hY0 : Below w.heap.size w y0 ∧ y0.heap[w.heap.size]? = some (dkO (.slice va n vc) s) := by rw [← hy0]; exact ⟨below_drewN (HIT.out _).1 _, (HIT.out _).2⟩
      obtain ⟨y1, hy1⟩ : ∃ y1, y0.alloc (.cells #[.int .i64 2, .int .i64 3, .int .i64 4, .int .i64 5] 3) = y1 := ⟨_, rfl⟩
      have hc1 : y1.heap[y0.heap.size]? = some (.cells #[.int .i64 2, .int .i64 3, .int .i64 4, .int .i64 5] 3) := by rw [← hy1]; exact (MapKept.heap_alloc y0 _).1
      have hb1 : Below y0.heap.size y0 y1 := by rw [← hy1]; exact balloc _ _
      have HB1 : Hid (Below w.heap.size w y1) := bsq hY0.1 hb1
      have t0 : y1.cell? ⟨y0.heap.size, 0, none⟩ = some (.int .i64 2) := by rw [cell_of_row y1 _ _ _ _ (0, 0) hc1]; rfl
      have t1 : y1.cell? ⟨y0.heap.size, 1, none⟩ = some (.int .i64 3) := by rw [cell_of_row y1 _ _ _ _ (0, 0) hc1]; rfl
      have t2 : y1.cell? ⟨y0.heap.size, 2, none⟩ = some (.int .i64 4) := by rw [cell_of_row y1 _ _ _ _ (0, 0) hc1]; rfl
      have t3 : y1.cell? ⟨y0.heap.size, 3, none⟩ = some (.int .i64 5) := by rw [cell_of_row y1 _ _ _ _ (0, 0) hc1]; rfl
      clear p0 p1 p2 p3 hz9 hnx
      obtain ⟨⟨hz9, p0, p1⟩, p2, p3⟩ := boxD (keep hY0.2 hb1)
      clear hY0 hb1 hc1 hy0
      go_wp2
      go_loopw [11, 76] (fun av iv wr => ∃ k : Nat, k ≤ 4 ∧ iv = .int .i64 (k : Int) ∧ av = .int .i64 (if k = 0 then 0 else if k = 1 then bt c 2 else if k = 2 then bt c 2 * 256 + bt c 3 else if k = 3 then (bt c 2 * 256 + bt c 3) * 256 + bt c 4 else ((bt c 2 * 256 + bt c 3) * 256 + bt c 4) * 256 + bt c 5) ∧ wr = y1) (fun _ iv _ => 4 - (intOf iv).toNat)
      case atStart => exact ⟨0, by omega, rfl, rfl, rfl⟩
      case round =>
        obtain ⟨k, hk, rfl, rfl, rfl⟩ := hrel
        have hk' : k = 0 ∨ k = 1 ∨ k = 2 ∨ k = 3 ∨ k = 4 := by omega
        rcases hk' with rfl | rfl | rfl | rfl | rfl
        · clear HSN HAB HNO
          go_wp2
          go_roundw
          case rel => exact ⟨1, by omega, rfl, by go_num, trivial⟩
          case measure => simp [intOf]
        · clear HSN HAB HNO
          go_wp2
          go_roundw
          case rel => exact ⟨2, by omega, rfl, by go_num, trivial⟩
          case measure => simp [intOf]
        · clear HSN HAB HNO
          go_wp2
          go_roundw
          case rel => exact ⟨3, by omega, rfl, by go_num, trivial⟩
          case measure => simp [intOf]
        · clear HSN HAB HNO
          go_wp2
          go_roundw
          case rel => exact ⟨4, by omega, rfl, by go_num, trivial⟩
          case measure => simp [intOf]
        · by_cases h33 : (n : Int) < ((bt c 2 * 256 + bt c 3) * 256 + bt c 4) * 256 + bt c 5 + (bt c 7 * 256 + bt c 8)
          · have hq1 : Q1 = 33 := by rw [HSN.out, if_pos h33]
            have hq2 := HNO.out (by rw [hq1]; decide)
            have HG : Hid (Q1 = 33 ∧ Q2 = 0 ∧ Q3 = 0) := ⟨hq1, hq2.1, hq2.2⟩
            clear hq1 hq2 HSN HAB HNO
            go_wp2
            exact bodyPost_ret (v := .tuple #[.int .i64 33, .int .i64 0, .int .i64 0]) (by simp [results, Try.results63, go_sem]) rfl ⟨by rw [HG.out.1, HG.out.2.1, HG.out.2.2], HB1.out⟩
          have hs2 := HSN.out
          rw [if_neg h33] at hs2
          by_cases h42 : bt c 0 = 42
          · by_cases hxs : (x.size : Int) ≠ 16 * (bt c 7 * 256 + bt c 8)
            · have hq1 : Q1 = 36 := by rw [hs2, if_pos ⟨h42, hxs⟩]
              have hq2 := HNO.out (by rw [hq1]; decide)
              have HG : Hid (Q1 = 36 ∧ Q2 = 0 ∧ Q3 = 0) := ⟨hq1, hq2.1, hq2.2⟩
              have hxn : ((x.size : Int) != 16 * (bt c 7 * 256 + bt c 8)) = true := by rw [bne_iff_ne]; exact hxs
              clear hq1 hq2 HSN HAB HNO hs2 hxs g26 g37
              go_wp2
              exact bodyPost_ret (v := .tuple #[.int .i64 36, .int .i64 0, .int .i64 0]) (by simp [results, Try.results63, go_sem]) rfl ⟨by rw [HG.out.1, HG.out.2.1, HG.out.2.2], HB1.out⟩
            · have hq1 : Q1 = 0 := by rw [hs2, if_neg fun q => hxs q.2]
              have hq2 := HAB.out hq1
              have HG : Hid (Q1 = 0 ∧ Q2 = ((bt c 2 * 256 + bt c 3) * 256 + bt c 4) * 256 + bt c 5 ∧ Q3 = bt c 7 * 256 + bt c 8) := ⟨hq1, hq2.1, hq2.2⟩
              have hxn : ((x.size : Int) != 16 * (bt c 7 * 256 + bt c 8)) = false := by rw [bne_eq_false_iff_eq]; exact Classical.not_not.1 hxs
              clear hq1 hq2 HSN HAB HNO hs2 hxs g26 g37
              go_wp2
              exact bodyPost_ret (v := .tuple #[.int .i64 0, .int .i64 (((bt c 2 * 256 + bt c 3) * 256 + bt c 4) * 256 + bt c 5), .int .i64 (bt c 7 * 256 + bt c 8)]) (by simp [results, Try.results63, go_sem]) rfl ⟨by rw [HG.out.1, HG.out.2.1, HG.out.2.2], HB1.out⟩
          · have hq1 : Q1 = 0 := by rw [hs2, if_neg fun q => h42 q.1]
            have hq2 := HAB.out hq1
            have HG : Hid (Q1 = 0 ∧ Q2 = ((bt c 2 * 256 + bt c 3) * 256 + bt c 4) * 256 + bt c 5 ∧ Q3 = bt c 7 * 256 + bt c 8) := ⟨hq1, hq2.1, hq2.2⟩
            have h42b : (bt c 0 == 42) = false := by simp [h42]
            clear hq1 hq2 HSN HAB HNO hs2 h42
            go_wp2
            exact bodyPost_ret (v := .tuple #[.int .i64 0, .int .i64 (((bt c 2 * 256 + bt c 3) * 256 + bt c 4) * 256 + bt c 5), .int .i64 (bt c 7 * 256 + bt c 8)]) (by simp [results, Try.results63, go_sem]) rfl ⟨by rw [HG.out.1, HG.out.2.1, HG.out.2.2], HB1.out⟩
    · have hlt : k < m.size := Classical.not_not.1 hlt
      have hkc : k < c.size := by omega
      obtain ⟨t1, t2, t3⟩ := HMT.out k (by have := HL.out; omega)
      have ha : (m[k]'hlt).toNat < 128 := by have := hmt k hlt; omega
      have hnx : ∀ ty, (Instr.next (.pointer (some ⟨u0.heap.size, 0, none⟩)) true ty).run Try.prog (u0.iter m k) = .ok (.tuple #[.bool true, .int .i64 (k : Int), .int .i32 (m[k]'hlt).toNat]) (u0.iter m (k + 1)) := fun ty => run_next_ascii u0 m k ty hlt ha
      have hI1 := itAt_iter u0 m k
      have hI2 := itAt_iter u0 m (k + 1)
      by_cases hk0 : k = 0
      · subst hk0
        have HR2 : Hid (mok2 (M.drop (max 1 1)) ((nums c).drop (max 1 1)) = Z) := HR.out
        have hI2 : itAt (u0.iter m 1) u0.heap.size = 1 := itAt_iter u0 m 1
        clear HR HZ t1 t2 t3 HMT
        go_wp2
        go_roundw
        case rel => exact ⟨1, by omega, rfl, HR2.out⟩
        case measure => omega
      have hk1 : max k 1 = k := by omega
      have hR := HR.out
      rw [hk1, mok2_step (by have := HL.out; omega) (by have := HL.out; omega), ← t1, ← HBT.out k hkc] at hR
      obtain ⟨f, hf⟩ : ∃ f, bt m k = f := ⟨_, rfl⟩
      obtain ⟨b1, hb1⟩ : ∃ b, bt c k = b := ⟨_, rfl⟩
      rw [hf, hb1] at hR
      have HB : Hid (mok f b1 = false → Z = false) := fun h => by rw [h, Bool.false_and] at hR; exact hR.symm
      have HC : Hid (mok f b1 = true → mok2 (M.drop (max (k + 1) 1)) ((nums c).drop (max (k + 1) 1)) = Z) := fun h => by
        rw [h, Bool.true_and] at hR
        rw [show max (k + 1) 1 = k + 1 by omega]; exact hR
      unfold mok at HB HC
      have hkp : (k : Int) > 0 := by omega
      clear HR HZ hR t1 t2 t3 HMT hk1
      cases e1 : (f == 48) with
      | false =>
        have HG : Hid (mok2 (M.drop (max (k + 1) 1)) ((nums c).drop (max (k + 1) 1)) = Z) := HC.out (by rw [e1]; rfl)
        clear HB HC
        go_wp2
        go_roundw
        case rel => exact ⟨k + 1, by omega, rfl, HG.out⟩
        case measure => omega
      | true =>
        cases e2 : decide (b1 > 0) with
        | true =>
          have HG : Hid (Q1 = 36 ∧ Q2 = 0 ∧ Q3 = 0) := by
            have hZf := HB.out (by rw [e1, e2]; rfl)
            refine H36.out ?_
            rw [HFM.out, if_pos hZf]
          clear HB HC
          go_wp2
          exact bodyPost_ret (v := .tuple #[.int .i64 36, .int .i64 0, .int .i64 0]) (by simp [results, Try.results63, go_sem]) rfl ⟨by rw [HG.out.1, HG.out.2.1, HG.out.2.2], (HIT.out _).1⟩
        | false =>
          have HG : Hid (mok2 (M.drop (max (k + 1) 1)) ((nums c).drop (max (k + 1) 1)) = Z) := HC.out (by rw [e1, e2]; rfl)
          clear HB HC
          go_wp2
          go_roundw
          case rel => exact ⟨k + 1, by omega, rfl, HG.out⟩
          case measure => omega
end Go.Proofs.Ytecknicmonhcaaa.scsi
