/- plugref's setup: what ReadAsk answers. -/
import Derived.Test.YtdnmjeiljpdmcaaSetS
namespace Go.Proofs.Ytdnmjeiljpdmcaa.setup
open Go.RowKit Go.PlainAid Go.Proofs.Ytdnmjeiljpdmcaa.lane Go.Proofs.Ytdnmjeiljpdmcaa.desc
set_option linter.unusedVariables false
set_option linter.unusedSimpArgs false

theorem eight_split (s : List Int) (hb : Byt s) (h : s.length = 8) : s = s.take 2 ++ wrd (wat s 2) ++ wrd (wat s 4) ++ wrd (wat s 6) := by
  match s, h with
  | [a, b, c, d, e, f, g, i], _ =>
    have hc := hb c (by simp)
    have hd := hb d (by simp)
    have he := hb e (by simp)
    have hf := hb f (by simp)
    have hg := hb g (by simp)
    have hi := hb i (by simp)
    simp [wat, wrd]
    omega
theorem txt_split (k v i l : Int) : txt k v i l = [col k 0, col k 1] ++ wrd v ++ wrd i ++ wrd l := rfl
theorem head_of_hit {s : List Int} {k : Int} (h : hit s k = true) : good k (wat s 2) (wat s 4) (wat s 6) = true ∧ s.take 2 = [col k 0, col k 1] := by
  unfold hit at h
  rw [Bool.and_eq_true, decide_eq_true_iff] at h
  refine ⟨h.1, ?_⟩
  have e := h.2
  conv => lhs; rw [← e]
  rfl
theorem find_of_hit {s : List Int} {k : Int} (h : hit s k = true) (h1 : 1 ≤ k) (h2 : k ≤ 14) : find s 14 1 = k := by
  by_cases c : find s 14 1 = 0
  · have := find_zero 14 1 (by omega) c k h1 (by omega)
    rw [h] at this; cases this
  · exact hit_one (find_hit 14 1 (by omega) c).1 h
theorem find_match {s : List Int} (hb : Byt s) (hl : s.length = 8) {k : Int} (h1 : 1 ≤ k) (h2 : k ≤ 14) (hm : s.take 2 = [col k 0, col k 1]) :
    (good k (wat s 2) (wat s 4) (wat s 6) = true → find s 14 1 = k) ∧ (good k (wat s 2) (wat s 4) (wat s 6) = false → find s 14 1 = 0) := by
  constructor
  · intro hg
    refine find_of_hit ?_ h1 h2
    unfold hit
    rw [hg, Bool.true_and, decide_eq_true_iff, txt_split, ← hm]
    exact (eight_split s hb hl).symm
  · intro hg
    by_cases c : find s 14 1 = 0
    · exact c
    · obtain ⟨hh, g1, g2⟩ := find_hit 14 1 (by omega) c
      obtain ⟨hG, hT⟩ := head_of_hit hh
      rw [hm] at hT
      simp only [List.cons.injEq, and_true] at hT
      have hd := heads_apart ⟨k.toNat, by omega⟩ ⟨(find s 14 1).toNat, by omega⟩ (by simp; omega) (by simp; omega)
      simp only [Int.toNat_of_nonneg (show 0 ≤ k by omega), Int.toNat_of_nonneg (show 0 ≤ find s 14 1 by omega)] at hd
      have := hd hT.1 hT.2
      rw [Fin.mk.injEq] at this
      have e : find s 14 1 = k := by omega
      rw [e, hg] at hG
      cases hG
theorem find_nowhere {s : List Int} (h : ∀ j : Nat, j < 14 → ¬ s.take 2 = [col ((j : Int) + 1) 0, col ((j : Int) + 1) 1]) : find s 14 1 = 0 := by
  by_cases c : find s 14 1 = 0
  · exact c
  · obtain ⟨hh, g1, g2⟩ := find_hit 14 1 (by omega) c
    have := h (find s 14 1 - 1).toNat (by omega)
    rw [show (((find s 14 1 - 1).toNat : Nat) : Int) + 1 = find s 14 1 by omega] at this
    exact absurd (head_of_hit hh).2 this
theorem readAsk_short (s : ByteArray) (w : World) (h : s.size < 8) :
    Calls Try.prog 33 #[.string s] w fun e w' => e = .returned (.tuple #[ask 0 0 0 0, .int .i64 3]) ∧ Below w.heap.size w w' := by
  have q1 : (s.size : Int) < 8 := by omega
  have q2 : ((s.size : Int) == 8) = false := by simp; omega
  go_enter Try.func33, Try.ntmps33
  go_wp2
  exact bodyPost_ret (by simp [results, Try.results33, go_sem]) rfl ⟨rfl, balloc _ _⟩
theorem readAsk_long (s : ByteArray) (w : World) (h : 8 < s.size) (hm : s.size ≤ maxLen) :
    Calls Try.prog 33 #[.string s] w fun e w' => e = .returned (.tuple #[ask 0 0 0 0, .int .i64 4]) ∧ Below w.heap.size w w' := by
  have q1 : ¬ (s.size : Int) < 8 := by omega
  have q2 : ((s.size : Int) == 8) = false := by simp; omega
  unfold maxLen at hm
  go_enter Try.func33, Try.ntmps33
  go_wp2
  exact bodyPost_ret (by simp [results, Try.results33, go_sem]) rfl ⟨rfl, balloc _ _⟩
theorem head_run2 (j : Nat) (hj : j < 14) (W : World) : (Instr.slice 9 (.string heads) (some (.int .i64 (2 * (j : Int)))) (some (.int .i64 (2 * (j : Int) + 2))) none).run Try.prog W = .ok (.string (strOfNums [col ((j : Int) + 1) 0, col ((j : Int) + 1) 1])) W := by
  have e := head_cut ⟨j, hj⟩
  simp only at e
  have := run_slice_string (P := Try.prog) (w := W) 9 heads .i64 .i64 (2 * (j : Int)) (2 * (j : Int) + 2) Try.underlying9 (by omega) (by omega) (by show _ ≤ (28 : Int); omega)
  rw [this, ← e, show (2 * (j : Int)).toNat = 2 * j by omega, show (2 * (j : Int) + 2).toNat = 2 * j + 2 by omega]
set_option maxRecDepth 100000 in
set_option maxHeartbeats 4000000 in
theorem readAsk_eight (s : ByteArray) (w : World) (h8 : s.size = 8) :
    Calls Try.prog 33 #[.string s] w fun e w' => e = .returned (.tuple #[rdA s, .int .i64 (rdC s)]) ∧ Below w.heap.size w w' := by
  have hm : s.size ≤ maxLen := by rw [h8]; unfold maxLen; omega
  have HW2 : Hid (∀ w : World, Calls Try.prog 39 #[.string s, .int .i64 2] w fun e w' => e = .returned (.int .i64 (wat (nums s) 2)) ∧ ∃ q, w' = w.drewN q) := fun w => by rw [← wd_wat s h8 2 (by omega)]; exact wordAt_any s 2 w (by omega) hm
  have HW4 : Hid (∀ w : World, Calls Try.prog 39 #[.string s, .int .i64 4] w fun e w' => e = .returned (.int .i64 (wat (nums s) 4)) ∧ ∃ q, w' = w.drewN q) := fun w => by rw [← wd_wat s h8 4 (by omega)]; exact wordAt_any s 4 w (by omega) hm
  have HW6 : Hid (∀ w : World, Calls Try.prog 39 #[.string s, .int .i64 6] w fun e w' => e = .returned (.int .i64 (wat (nums s) 6)) ∧ ∃ q, w' = w.drewN q) := fun w => by rw [← wd_wat s h8 6 (by omega)]; exact wordAt_any s 6 w (by omega) hm
  have HPr : Hid (∀ (j : Nat) (w : World), j < 14 → Calls Try.prog 38 #[.string s, .string (strOfNums [col ((j : Int) + 1) 0, col ((j : Int) + 1) 1])] w fun e w' => e = .returned (.bool (decide ((nums s).take 2 = [col ((j : Int) + 1) 0, col ((j : Int) + 1) 1]))) ∧ w = w') := by
    intro j w hj
    have h := hasPrefix_any s (strOfNums [col ((j : Int) + 1) 0, col ((j : Int) + 1) 1]) w hm (by rw [str_size]; unfold maxLen; simp)
    have c0 : 0 ≤ col ((j : Int) + 1) 0 ∧ col ((j : Int) + 1) 0 ≤ 255 := col_head ⟨j + 1, by omega⟩ ⟨0, by omega⟩
    have c1 : 0 ≤ col ((j : Int) + 1) 1 ∧ col ((j : Int) + 1) 1 ≤ 255 := col_head ⟨j + 1, by omega⟩ ⟨1, by omega⟩
    rw [str_size, nums_str _ (by intro x hx; simp at hx; rcases hx with rfl | rfl; exact c0; exact c1)] at h
    exact h
  have HT : Hid (∀ (k : Int) (w : World), Calls Try.prog 40 #[ask k (wat (nums s) 2) (wat (nums s) 4) (wat (nums s) 6)] w fun r w' => r = .returned (.tuple #[.string (wrT k (wat (nums s) 2) (wat (nums s) 4) (wat (nums s) 6)), .int .i64 (wrC k (wat (nums s) 2) (wat (nums s) 4) (wat (nums s) 6))]) ∧ Below w.heap.size w w') := fun k w => askText_any k _ _ _ w
  have HM : Hid (∀ j : Nat, j < 14 → (nums s).take 2 = [col ((j : Int) + 1) 0, col ((j : Int) + 1) 1] → (wrC ((j : Int) + 1) (wat (nums s) 2) (wat (nums s) 4) (wat (nums s) 6) = 0 ∧ find (nums s) 14 1 = (j : Int) + 1) ∨ (wrC ((j : Int) + 1) (wat (nums s) 2) (wat (nums s) 4) (wat (nums s) 6) = 1 ∧ find (nums s) 14 1 = 0)) := by
    intro j hj hmt
    obtain ⟨f1, f2⟩ := find_match (nums_byt s) (by rw [nums_length]; exact h8) (k := (j : Int) + 1) (by omega) (by omega) hmt
    unfold wrC
    cases hg : good ((j : Int) + 1) (wat (nums s) 2) (wat (nums s) 4) (wat (nums s) 6) with
    | true => exact .inl ⟨rfl, f1 hg⟩
    | false => exact .inr ⟨rfl, f2 hg⟩
  have HE : Hid (∀ k : Int, k ≠ 0 → find (nums s) 14 1 = k → Ending.returned (.tuple #[ask k (wat (nums s) 2) (wat (nums s) 4) (wat (nums s) 6), .int .i64 0]) = .returned (.tuple #[rdA s, .int .i64 (rdC s)])) := by
    intro k hk he
    unfold rdA rdC rdK
    rw [he, if_neg hk, if_neg hk]
  have HN : Hid (find (nums s) 14 1 = 0 → Ending.returned (.tuple #[ask 0 0 0 0, .int .i64 12]) = .returned (.tuple #[rdA s, .int .i64 (rdC s)])) := by
    intro he
    unfold rdA rdC rdK
    rw [he, if_pos rfl, if_pos rfl]
  have q2 : ((s.size : Int) != 8) = false := by simp; omega
  clear h8 hm
  generalize rdA s = ra at *
  generalize rdC s = rc at *
  generalize wat (nums s) 2 = v at *
  generalize wat (nums s) 4 = i at *
  generalize wat (nums s) 6 = l at *
  go_enter Try.func33, Try.ntmps33
  go_wp2
  obtain ⟨W0, hW0⟩ : ∃ W0, w.alloc (askc 0 0 0 0) = W0 := ⟨_, rfl⟩
  have HB0 : Hid (Below w.heap.size w W0) := by show Below _ _ _; rw [← hW0]; exact balloc _ _
  have HR0 : Hid (W0.heap[w.heap.size]? = some (askc 0 0 0 0)) := by show _ = _; rw [← hW0]; exact (MapKept.heap_alloc w _).1
  try rw [hW0]
  clear hW0
  go_loopw [4] (fun kv wr => ∃ j : Nat, j ≤ 14 ∧ kv = .int .i64 (2 * (j : Int)) ∧ wr = W0 ∧ Hid (∀ i : Nat, i < j → ¬ (nums s).take 2 = [col ((i : Int) + 1) 0, col ((i : Int) + 1) 1])) (fun kv _ => 28 - (intOf kv).toNat)
  case atStart => exact ⟨0, by omega, rfl, rfl, fun i hi => absurd hi (Nat.not_lt_zero _)⟩
  case round =>
    obtain ⟨j, hj, rfl, rfl, HI⟩ := hrel
    by_cases hlt : j < 14
    · have hsl := head_run2 j hlt
      have HPj := HPr.out j
      have HPj : Hid (∀ w : World, Calls Try.prog 38 #[.string s, .string (strOfNums [col ((j : Int) + 1) 0, col ((j : Int) + 1) 1])] w fun e w' => e = .returned (.bool (decide ((nums s).take 2 = [col ((j : Int) + 1) 0, col ((j : Int) + 1) 1]))) ∧ w = w') := fun w => HPj w hlt
      have hcs : (decide ((nums s).take 2 = [col ((j : Int) + 1) 0, col ((j : Int) + 1) 1]) = false ∧ Hid (∀ i : Nat, i < j + 1 → ¬ (nums s).take 2 = [col ((i : Int) + 1) 0, col ((i : Int) + 1) 1])) ∨
          (decide ((nums s).take 2 = [col ((j : Int) + 1) 0, col ((j : Int) + 1) 1]) = true ∧ Hid ((wrC ((j : Int) + 1) v i l = 0 ∧ find (nums s) 14 1 = (j : Int) + 1) ∨ (wrC ((j : Int) + 1) v i l = 1 ∧ find (nums s) 14 1 = 0))) := by
        by_cases hmt : (nums s).take 2 = [col ((j : Int) + 1) 0, col ((j : Int) + 1) 1]
        · exact .inr ⟨decide_eq_true hmt, HM.out j hlt hmt⟩
        · refine .inl ⟨decide_eq_false hmt, fun i hi => ?_⟩
          by_cases e : i = j
          · rw [e]; exact hmt
          · exact HI.out i (by omega)
      generalize decide ((nums s).take 2 = [col ((j : Int) + 1) 0, col ((j : Int) + 1) 1]) = bm at *
      generalize strOfNums [col ((j : Int) + 1) 0, col ((j : Int) + 1) 1] = Th at *
      go_wp2_with fail
      refine (HPj.out _).mono ?_
      rintro r u ⟨rfl, rfl⟩
      clear hsl HPj
      rcases hcs with ⟨rfl, HI2⟩ | ⟨rfl, HC⟩
      · go_wp2
        go_roundw
        case rel => exact ⟨j + 1, by omega, by go_num, by first | rfl | trivial, HI2.out⟩
        case measure => simp [intOf]; omega
      · go_wp2_with fail
        refine (HW2.out _).mono ?_
        rintro r u ⟨rfl, p2, rfl⟩
        go_wp2_with fail
        refine (HW4.out _).mono ?_
        rintro r u ⟨rfl, p4, rfl⟩
        go_wp2_with fail
        refine (HW6.out _).mono ?_
        rintro r u ⟨rfl, p6, rfl⟩
        obtain ⟨W1, hW1⟩ : ∃ W1, (wr.drewN (p2 + p4)).drewN p6 = W1 := ⟨_, rfl⟩
        have HB1 : Hid (Below w.heap.size w W1) := by show Below _ _ _; rw [← hW1]; exact below_drewN (below_drewN HB0.out _) _
        have HR1 : Hid (W1.heap[w.heap.size]? = some (askc 0 0 0 0)) := by show _ = _; rw [← hW1]; exact HR0.out
        rw [hW1]
        clear hW1
        go_wp2_with fail
        refine (HT.out ((j : Int) + 1) _).mono ?_
        rintro r u ⟨rfl, hbu⟩
        have HBu : Hid (Below w.heap.size w u) := bsq (bsq HB1.out (balloc _ _)) hbu
        have HRu : Hid (u.heap[w.heap.size]? = some (askc 0 0 0 0)) := res_below (res_below HR1.out (balloc _ _)) hbu
        obtain ⟨hzX, c0, c1, c2, c3⟩ := (ak_alloc W1 ((j : Int) + 1) v i l).below (by simp) hbu
        obtain ⟨⟨hzR, d0, d1, d2, d3⟩, hfs⟩ := box4 HRu.out
        have g0 := hfs 0
        have g1 := hfs 1
        have g2 := hfs 2
        have g3 := hfs 3
        clear hfs hbu
        generalize wrT ((j : Int) + 1) v i l = TT at *
        generalize wrC ((j : Int) + 1) v i l = cc at *
        rcases HC.out with ⟨rfl, hf⟩ | ⟨rfl, hf⟩
        · have HH : Hid (find (nums s) 14 1 = (j : Int) + 1) := hf
          have hch := ch4 (k' := (j : Int) + 1) (v' := v) (i' := i) (l' := l) HRu.out
          have hBf := bch4 (k' := (j : Int) + 1) (v' := v) (i' := i) (l' := l) HBu.out
          obtain ⟨vf, hvf⟩ : ∃ vf, ((((u.setCell ⟨w.heap.size, 0, none⟩ (.int .i64 ((j : Int) + 1))).setCell ⟨w.heap.size, 1, none⟩ (.int .i64 v)).setCell ⟨w.heap.size, 2, none⟩ (.int .i64 i)).setCell ⟨w.heap.size, 3, none⟩ (.int .i64 l)) = vf := ⟨_, rfl⟩
          rw [hvf] at hch hBf
          clear hf
          go_wp2
          try rw [hvf]
          obtain ⟨⟨hzf, r0, r1, r2, r3⟩, _⟩ := box4 hch
          exact bodyPost_ret (v := .tuple #[ask ((j : Int) + 1) v i l, .int .i64 0]) (by simp [results, Try.results33, go_sem, hzf, r0, r1, r2, r3]) rfl ⟨HE.out ((j : Int) + 1) (by omega) HH.out, hBf⟩
        · have HH : Hid (find (nums s) 14 1 = 0) := hf
          have hch := ch4 (k' := 0) (v' := 0) (i' := 0) (l' := 0) HRu.out
          have hBf := bch4 (k' := 0) (v' := 0) (i' := 0) (l' := 0) HBu.out
          obtain ⟨vf, hvf⟩ : ∃ vf, ((((u.setCell ⟨w.heap.size, 0, none⟩ (.int .i64 0)).setCell ⟨w.heap.size, 1, none⟩ (.int .i64 0)).setCell ⟨w.heap.size, 2, none⟩ (.int .i64 0)).setCell ⟨w.heap.size, 3, none⟩ (.int .i64 0)) = vf := ⟨_, rfl⟩
          rw [hvf] at hch hBf
          clear hf
          go_wp2
          try rw [hvf]
          obtain ⟨⟨hzf, r0, r1, r2, r3⟩, _⟩ := box4 hch
          exact bodyPost_ret (v := .tuple #[ask 0 0 0 0, .int .i64 12]) (by simp [results, Try.results33, go_sem, hzf, r0, r1, r2, r3]) rfl ⟨HN.out HH.out, hBf⟩
    · have HH : Hid (find (nums s) 14 1 = 0) := find_nowhere fun i hi => HI.out i (by omega)
      obtain ⟨⟨hzR, d0, d1, d2, d3⟩, hfs⟩ := box4 HR0.out
      have g0 := hfs 0
      have g1 := hfs 1
      have g2 := hfs 2
      have g3 := hfs 3
      have hch := ch4 (k' := 0) (v' := 0) (i' := 0) (l' := 0) HR0.out
      have hBf := bch4 (k' := 0) (v' := 0) (i' := 0) (l' := 0) HB0.out
      obtain ⟨vf, hvf⟩ : ∃ vf, ((((wr.setCell ⟨w.heap.size, 0, none⟩ (.int .i64 0)).setCell ⟨w.heap.size, 1, none⟩ (.int .i64 0)).setCell ⟨w.heap.size, 2, none⟩ (.int .i64 0)).setCell ⟨w.heap.size, 3, none⟩ (.int .i64 0)) = vf := ⟨_, rfl⟩
      rw [hvf] at hch hBf
      clear hfs
      go_wp2
      try rw [hvf]
      obtain ⟨⟨hzf, r0, r1, r2, r3⟩, _⟩ := box4 hch
      exact bodyPost_ret (v := .tuple #[ask 0 0 0 0, .int .i64 12]) (by simp [results, Try.results33, go_sem, hzf, r0, r1, r2, r3]) rfl ⟨HN.out HH.out, hBf⟩
theorem readAsk_any (s : ByteArray) (hm : s.size ≤ maxLen) (w : World) :
    Calls Try.prog 33 #[.string s] w fun e w' => e = .returned (.tuple #[ask (rK s) (rN s 2) (rN s 4) (rN s 6), .int .i64 (rC s)]) ∧ Below w.heap.size w w' := by
  rw [← rA_eq]
  unfold rA rC
  by_cases h : s.size < 8
  · rw [if_neg (by omega), if_pos h]; exact readAsk_short s w h
  · rw [if_neg h]
    by_cases h8 : s.size = 8
    · rw [if_pos h8, if_pos h8]; exact readAsk_eight s w h8
    · rw [if_neg h8, if_neg h8]; exact readAsk_long s w (by omega) hm
end Go.Proofs.Ytdnmjeiljpdmcaa.setup
