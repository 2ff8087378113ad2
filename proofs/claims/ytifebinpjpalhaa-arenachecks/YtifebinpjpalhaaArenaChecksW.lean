/- ArenaChecks: whatever is handed in, New, Check and Free answer what the document says. -/
import Derived.Test.YtifebinpjpalhaaAreU
import Derived.Test.YtifebinpjpalhaaAreV
import Derived.Test.YtifebinpjpalhaaAreR
import Derived.Test.YtifebinpjpalhaaAreK
import Derived.Test.YtifebinpjpalhaaAreG
import Derived.Test.YtifebinpjpalhaaAreC
import Derived.Deep.CutRange
namespace Go.Proofs.Ytifebinpjpalhaa.arenaChecks
open Go Go.RowKit Go.Proofs.Ytifebinpjpalhaa.arena
set_option linter.unusedVariables false
set_option linter.unusedSimpArgs false
set_option maxRecDepth 100000

theorem abs_any {P : Program} {md : Region.Mode} {ops : Array Oper} {Q : Exit → Act → World → Prop} {S : World → Prop} {fuel : Nat} {L : Array Bool} {a : Act} {w : World} (H : Act → Prop) (ha : H a) (h : ∀ a0, H a0 → wpAnyH P md ops Q S fuel L a0 w) : wpAnyH P md ops Q S fuel L a w := h a ha
theorem wanted_none {o : Oper} {y : Nat → Option Bool} (h : o.guard = none) : Region.wanted o y = true := by simp [Region.wanted, h]
theorem wanted_of {o : Oper} {ops : Array Oper} {a : Act} (j : Nat) (want : Bool) (dj : Nat) (hgd : o.guard = some (j, want)) (hj : ((ops[j]?).bind (·.dst)) = some dj) (ht : a.tmps[dj]? = some (.bool want)) : Region.wanted o (yielded ops a.tmps) = true := by
  simp [Region.wanted, hgd, yielded, hj, ht]
theorem unwanted_of {o : Oper} {ops : Array Oper} {a : Act} (j : Nat) (want : Bool) (dj : Nat) (hgd : o.guard = some (j, want)) (hj : ((ops[j]?).bind (·.dst)) = some dj) (ht : a.tmps[dj]? = some (.bool (!want))) : Region.wanted o (yielded ops a.tmps) = false := by
  cases want <;> simp [Region.wanted, hgd, yielded, hj, ht]
theorem at_of {t : Array Value} {j : Nat} {v : Value} (h : t[j]? = some v) : ∀ (hq : j < t.size), t[j]'hq = v := fun hq => by
  rw [Array.getElem?_eq_getElem hq] at h
  injection h
theorem put_size (a : Act) (d : Option Nat) (v : Value) : (a.put d v).tmps.size = a.tmps.size := by
  cases d <;> simp [Act.put]
theorem put_defers (a : Act) (d : Option Nat) (v : Value) : (a.put d v).defers = a.defers := by
  cases d <;> rfl
set_option maxHeartbeats 8000000 in
theorem walk (s : Int) (z : Int) (x : Value) (L : List Sp) (ws : (Lit.int .i64 s).wf = true) (w : World) (hp : Rss w x L ∧ Inr L) :
    Calls Try.prog 3 #[.int .i64 s, arV z x] w fun e w' => e = .returned (.bool true) ∧ Below w.heap.size w w' := by
  clear ws
  obtain ⟨hv, hI⟩ := hp
  obtain ⟨a, c, rfl, hlc, hcm⟩ := hv.form
  obtain ⟨n, hn⟩ : ∃ n, L.length = n := ⟨_, rfl⟩
  rw [hn] at hv hlc ⊢
  obtain ⟨w1, hw1, hX1, hb1⟩ := named w (arO z (.slice a n c))
  obtain ⟨⟨hz, x0, x1⟩, _⟩ := boxC hX1
  have HW : Hid (∀ u, Below w1.heap.size w1 u → Below w.heap.size w u) := fun u hu => bsq hb1 hu
  have HX : Hid (∀ u, Below w1.heap.size w1 u → u.heap[w.heap.size]? = some (arO z (.slice a n c))) := fun u hu => keep hX1 hu
  have HSS : Hid (∀ u, Below w1.heap.size w1 u → Rss u (.slice a n c) L) := fun u hu => hv.below (bsq hb1 hu)
  obtain ⟨k, hk⟩ : ∃ k, chk ⟨z, L⟩ = k := ⟨_, rfl⟩
  obtain ⟨fr, hfr⟩ : ∃ k, frV ⟨z, L⟩ = k := ⟨_, rfl⟩
  have HK : Hid (chk ⟨z, L⟩ = k ∧ frV ⟨z, L⟩ = fr) := ⟨hk, hfr⟩
  have HFR : Hid (∀ u, Below w1.heap.size w1 u → Calls Try.prog 10 #[arV z (.slice a n c)] u fun e w' => e = .returned (.tuple #[.int .i64 fr, .int .i64 k]) ∧ Below u.heap.size u w') := fun u hu => by
    have := free_any z (.slice a n c) L u (hv.below (bsq hb1 hu)) hI
    rw [hk, hfr] at this
    exact this
  have HCK : Hid (∀ u, Below w1.heap.size w1 u → Calls Try.prog 14 #[arV z (.slice a n c)] u fun e w' => e = .returned (.int .i64 k) ∧ Below u.heap.size u w') := fun u hu => by
    have := check_any z (.slice a n c) L u (hv.below (bsq hb1 hu)) hI
    rw [hk] at this
    exact this
  have HRA : Hid (∀ u, Below w1.heap.size w1 u → Calls Try.prog 11 #[arV z (.slice a n c)] u fun e w' => e = .returned (.int .i64 k) ∧ Below u.heap.size u w') := fun u hu => by
    have := refArena_any z (.slice a n c) L u (hv.below (bsq hb1 hu)) hI
    rw [hk] at this
    exact this
  obtain ⟨nz, hnz⟩ : ∃ q, nwZ s = q := ⟨_, rfl⟩
  obtain ⟨ne, hne⟩ : ∃ q, nwC s = q := ⟨_, rfl⟩
  have HNE : Hid (nwZ s = nz ∧ nwC s = ne) := ⟨hnz, hne⟩
  have HNW : Hid (Calls Try.prog 9 #[.int .i64 s] w1 fun e w' => e = .returned (.tuple #[arV nz (.slice none 0 0), .int .i64 ne]) ∧ Below w1.heap.size w1 w') := by
    have := new_any s w1
    rw [hnz, hne] at this
    exact this
  unfold maxLen at hcm
  clear hv hI hn hX1 hb1 hk hfr hnz hne
  go_enter Try.func3, Try.ntmps3
  go_wp2_with fail
  refine HNW.out.mono ?_
  rintro e u1 ⟨rfl, hb1⟩
  obtain ⟨u1', u2, hu1', hu2, hY1, hY2, hb2⟩ := laid2 u1 24 (.int .i64 0) (.slice none 0 0) (.int .i64 nz) (.slice none 0 0)
  have hb12 := bsq hb1 hb2
  obtain ⟨⟨hz1, t0, t1⟩, f0, f1⟩ := boxC hY1
  obtain ⟨u3', u3, hu3', hu3, hY3, hX3, hb3⟩ := laid2 u2 24 (.int .i64 0) (.slice none 0 0) (.int .i64 0) (.slice none 0 0)
  obtain ⟨⟨hz3', i0, i1⟩, j0, j1⟩ := boxC hY3
  obtain ⟨⟨hz3, r0, r1⟩, g0, g1⟩ := boxC hX3
  have HU3 : Hid (Below w1.heap.size w1 u3 ∧ u3.heap[u2.heap.size]? = some (arO 0 (.slice none 0 0)) ∧ u3.heap[u1.heap.size]? = some (arO nz (.slice none 0 0)) ∧ u1.heap.size < u2.heap.size) := ⟨bsq hb12 hb3, hX3, keep hY2 hb3, (Array.getElem?_eq_some_iff.1 hY2).1⟩
  have HLT : Hid (w1.heap.size ≤ u1.heap.size) := hb1.size
  clear hb1 hY1 hY2 hb2 hX3 hY3 hb3 hb12 HNW
  go_upto_region 2 with (fail)
  try rw [hu2]
  clear hu2 hu1' t0 t1 f0 f1
  go_upto_region 3 with (fail)
  try rw [hu3]
  clear hu3 hu3' i0 i1 j0 j1
  obtain ⟨b1, hsz⟩ : ∃ b, szB s = b := ⟨_, rfl⟩
  have HSZ : Hid (szB s = b1) := hsz
  clear hsz
  go_cut [24] from 19 (fun bv wx => bv = .bool b1 ∧ u3 = wx)
  case first =>
    by_cases hs3 : s < 1
    · have d1 : decide (s ≥ 1) = false := by rw [decide_eq_false_iff_not]; omega
      have hb : b1 = false := by rw [← HSZ.out]; simp [szB]; omega
      clear hs3
      go_wp2_with fail
      go_meet
      case rel => exact ⟨by rw [hb], rfl⟩
    · have d1 : decide (s ≥ 1) = true := by rw [decide_eq_true_eq]; omega
      by_cases hs4 : s ≤ 65536
      · have d2 : decide (s ≤ 65536) = true := decide_eq_true hs4
        have hb : b1 = true := by rw [← HSZ.out]; simp [szB]; omega
        clear hs3 hs4
        go_wp2_with fail
        go_meet
        case rel => exact ⟨by rw [hb], rfl⟩
      · have d2 : decide (s ≤ 65536) = false := decide_eq_false hs4
        have hb : b1 = false := by rw [← HSZ.out]; simp [szB]; omega
        clear hs3 hs4
        go_wp2_with fail
        go_meet
        case rel => exact ⟨by rw [hb], rfl⟩
  case rest =>
  obtain ⟨rfl, rfl⟩ := hcut
  go_upto_if 24 with (fail)
  go_cut [] from 25 (fun wx => Hid (Below w1.heap.size w1 wx ∧ wx.heap[u2.heap.size]? = some (arO nz (.slice none 0 0)) ∧ wx.heap[u1.heap.size]? = some (arO nz (.slice none 0 0))))
  case first =>
    cases b1
    · have hnz : nz = 0 := by
        have h1 := HNE.out.1
        unfold nwZ at h1
        rw [HSZ.out, if_neg (by decide)] at h1
        exact h1.symm
      have HU4 : Hid (Below w1.heap.size w1 u3 ∧ u3.heap[u2.heap.size]? = some (arO nz (.slice none 0 0)) ∧ u3.heap[u1.heap.size]? = some (arO nz (.slice none 0 0))) := ⟨HU3.out.1, by have := HU3.out.2.1; rw [← hnz] at this; exact this, HU3.out.2.2.1⟩
      clear hnz
      go_wp2_with fail
      go_meet
      case rel => exact HU4
    · have hnz : nz = s := by
        have h1 := HNE.out.1
        unfold nwZ at h1
        rw [HSZ.out, if_pos rfl] at h1
        exact h1.symm
      have HU4 : Hid (Below w1.heap.size w1 (u3.setCell ⟨u2.heap.size, 0, none⟩ (.int .i64 s)) ∧ (u3.setCell ⟨u2.heap.size, 0, none⟩ (.int .i64 s)).heap[u2.heap.size]? = some (arO nz (.slice none 0 0)) ∧ (u3.setCell ⟨u2.heap.size, 0, none⟩ (.int .i64 s)).heap[u1.heap.size]? = some (arO nz (.slice none 0 0))) := by
        refine ⟨HU3.out.1.setCell (show w1.heap.size ≤ u2.heap.size by have := HU3.out.2.2.2; have := HLT.out; omega) _, by rw [hnz]; exact csetX 0 _ HU3.out.2.1 rfl, ?_⟩
        rw [heap_setCell_other _ _ _ _ (show u1.heap.size ≠ u2.heap.size by have := HU3.out.2.2.2; omega)]
        exact HU3.out.2.2.1
      clear hnz
      go_wp2_with fail
      go_meet
      case rel => exact HU4
  case rest =>
  rename World => u4
  have HU4 : Hid (Below w1.heap.size w1 u4 ∧ u4.heap[u2.heap.size]? = some (arO nz (.slice none 0 0)) ∧ u4.heap[u1.heap.size]? = some (arO nz (.slice none 0 0))) := hcut
  clear hcut r0 r1 g0 g1
  have HF4 : Hid (Calls Try.prog 10 #[arV z (.slice a n c)] u4 fun e w' => e = .returned (.tuple #[.int .i64 fr, .int .i64 k]) ∧ Below u4.heap.size u4 w') := HFR.out u4 HU4.out.1
  obtain ⟨⟨_, b0, b1'⟩, _⟩ := boxC (HX.out u4 HU4.out.1)
  go_wp2_with fail
  refine HF4.out.mono ?_
  rintro e u5 ⟨rfl, hb5⟩
  have HU5 : Hid (Below w1.heap.size w1 u5 ∧ u5.heap[u2.heap.size]? = some (arO nz (.slice none 0 0)) ∧ u5.heap[u1.heap.size]? = some (arO nz (.slice none 0 0))) := ⟨bsq HU4.out.1 hb5, keep HU4.out.2.1 hb5, keep HU4.out.2.2 hb5⟩
  have HR5 : Hid (Calls Try.prog 11 #[arV z (.slice a n c)] u5 fun e w' => e = .returned (.int .i64 k) ∧ Below u5.heap.size u5 w') := HRA.out u5 HU5.out.1
  obtain ⟨⟨_, c0, c1⟩, _⟩ := boxC (HX.out u5 HU5.out.1)
  clear hb5 HF4 b0 b1'
  go_wp2_with fail
  refine HR5.out.mono ?_
  rintro e u6 ⟨rfl, hb6⟩
  have HU6 : Hid (Below w1.heap.size w1 u6 ∧ u6.heap[u2.heap.size]? = some (arO nz (.slice none 0 0)) ∧ u6.heap[u1.heap.size]? = some (arO nz (.slice none 0 0))) := ⟨bsq HU5.out.1 hb6, keep HU5.out.2.1 hb6, keep HU5.out.2.2 hb6⟩
  clear hb6 HR5 c0 c1
  obtain ⟨bk, hbk⟩ : ∃ b, (k == 0) = b := ⟨_, rfl⟩
  have HBK : Hid ((k == 0) = bk) := hbk
  go_upto_if 34 with (fail)
  clear hbk
  go_cut [10] from 35 (fun fv wx => fv = .int .i64 fr ∧ Hid (Below w1.heap.size w1 wx ∧ wx.heap[u2.heap.size]? = some (arO nz (.slice none 0 0)) ∧ wx.heap[u1.heap.size]? = some (arO nz (.slice none 0 0))))
  case first =>
    cases bk
    · have hfr0 : fr = 0 := by
        rw [← HK.out.2]; unfold frV; rw [HK.out.1, if_neg (by have := HBK.out; simpa using this)]
      have HF0 : Hid (fr = 0) := hfr0
      clear hfr0
      go_wp2_with fail
      go_meet
      case rel => exact ⟨by rw [HF0.out], HU6⟩
    · have hk0 : k = 0 := by have := HBK.out; simpa using this
      have HC0 : Hid (chk ⟨z, L⟩ = 0) := by rw [← hk0]; exact HK.out.1
      have hzb := chk_ok HC0.out
      obtain ⟨hzb1, hzb2, _, _⟩ := hzb
      simp only at hzb1 hzb2
      obtain ⟨N, hNz⟩ : ∃ N : Nat, z = (N : Int) := ⟨z.toNat, by omega⟩
      subst hNz
      have hN1 : N ≤ 65536 := by omega
      have HT6 : Hid (Calls Try.prog 12 #[arV (N : Int) (.slice a n c)] u6 fun e w' => ∃ B, u6.heap.size ≤ B ∧ e = .returned (.slice (some ⟨B, 0, none⟩) N N) ∧ Bw w' B N (tkL N L) ∧ Below u6.heap.size u6 w') := refTaken_any N (.slice a n c) L u6 (HSS.out u6 HU6.out.1) HC0.out
      obtain ⟨⟨_, d0, d1⟩, _⟩ := boxC (HX.out u6 HU6.out.1)
      have HCNT : Hid ((((tkL N L).countP (fun b => !b) : Nat) : Int) = fr) := by rw [← HK.out.2]; exact free_count HC0.out
      clear hzb1 hzb2 hk0
      go_wp2_with fail
      refine HT6.out.mono ?_
      rintro e u7 ⟨B, hB, rfl, hBw, hb7⟩
      have HU7 : Hid (Below w1.heap.size w1 u7 ∧ u7.heap[u2.heap.size]? = some (arO nz (.slice none 0 0)) ∧ u7.heap[u1.heap.size]? = some (arO nz (.slice none 0 0))) := ⟨bsq HU6.out.1 hb7, keep HU6.out.2.1 hb7, keep HU6.out.2.2 hb7⟩
      have HBW : Hid (Bw u7 B N (tkL N L)) := hBw
      clear hb7 hBw HT6 d0 d1 hB
      go_wp2
      go_loopw [10, 38] (fun f i wr => ∃ (j q : Nat), j ≤ N ∧ i = .int .i64 (j : Int) ∧ f = .int .i64 (q : Int) ∧ q ≤ j ∧ u7 = wr ∧ Hid (q + ((tkL N L).drop j).countP (fun b => !b) = (tkL N L).countP (fun b => !b))) (fun _ i _ => N - (intOf i).toNat)
      case atStart => exact ⟨0, 0, Nat.zero_le _, rfl, rfl, Nat.zero_le _, rfl, by show 0 + List.countP _ (List.drop 0 _) = _; rw [List.drop_zero, Nat.zero_add]⟩
      case round =>
        obtain ⟨j, q, hj, rfl, rfl, hqj, rfl, HA⟩ := hrel
        by_cases hlt : j < N
        · obtain ⟨b, hb⟩ : ∃ b, (tkL N L)[j]? = some b := ⟨_, tkL_at hlt⟩
          have cb := HBW.out.cell hb
          have hjl := (List.getElem?_eq_some_iff.1 hb).1
          have HA2 : Hid (q + ((if b = false then 1 else 0) + ((tkL N L).drop (j + 1)).countP (fun b => !b)) = (tkL N L).countP (fun b => !b)) := by
            have := HA.out
            rw [List.drop_eq_getElem_cons hjl, (List.getElem?_eq_some_iff.1 hb).2, List.countP_cons] at this
            show _ = _
            rw [← this]
            cases b <;> simp <;> omega
          clear hb hjl HA
          cases b with
          | true =>
            have HA3 : Hid (q + ((tkL N L).drop (j + 1)).countP (fun b => !b) = (tkL N L).countP (fun b => !b)) := by have := HA2.out; rw [if_neg (by decide)] at this; show _ = _; omega
            clear HA2
            go_wp2
            go_roundw
            case rel => exact ⟨j + 1, q, by omega, by go_num, rfl, by omega, trivial, HA3.out⟩
            case measure => simp [intOf]; omega
          | false =>
            have HA3 : Hid (q + 1 + ((tkL N L).drop (j + 1)).countP (fun b => !b) = (tkL N L).countP (fun b => !b)) := by have := HA2.out; rw [if_pos rfl] at this; show _ = _; omega
            clear HA2
            go_wp2
            go_roundw
            case rel => exact ⟨j + 1, q + 1, by omega, by go_num, by go_num, by omega, trivial, HA3.out⟩
            case measure => simp [intOf]; omega
        · have HF0 : Hid ((q : Int) = fr) := by
            have := HA.out
            rw [List.drop_eq_nil_of_le (by rw [tkL_length]; omega), List.countP_nil, Nat.add_zero] at this
            show _ = _
            rw [this]; exact HCNT.out
          clear HA
          go_wp2_with fail
          go_meet
          case rel => exact ⟨by rw [HF0.out], HU7⟩
  case rest =>
  obtain ⟨rfl, HU8⟩ := hcut
  rename World => u8
  have HE : Hid (∀ W, Below u8.heap.size u8 W → W.heap[u1.heap.size]? = some (arO nz (.slice none 0 0)) ∧ W.heap[u2.heap.size]? = some (arO nz (.slice none 0 0)) ∧ W.heap[w.heap.size]? = some (arO z (.slice a n c)) ∧ Below w1.heap.size w1 W) := fun W hW => ⟨keep HU8.out.2.2 hW, keep HU8.out.2.1 hW, HX.out _ (bsq HU8.out.1 hW), bsq HU8.out.1 hW⟩
  have HSA : Hid (∀ W, Below u8.heap.size u8 W → Calls Try.prog 13 #[arV nz (.slice none 0 0), arV nz (.slice none 0 0)] W fun e w' => e = .returned (.bool true) ∧ Below W.heap.size W w') := fun W hW => by
    have := same_any ⟨nz, []⟩ ⟨nz, []⟩ (.slice none 0 0) (.slice none 0 0) W (Rss.nil W) (Rss.nil W)
    rw [samB_same] at this
    exact this
  obtain ⟨q1, q2, q3⟩ : (ne == 0) = b1 ∧ decide (nz > 0) = b1 ∧ (b1 = false → (ne == 1) = true) := by
    obtain ⟨h1, h2⟩ := HNE.out
    have h3 := HSZ.out
    unfold nwZ at h1
    unfold nwC at h2
    rw [h3] at h1 h2
    cases b1
    · rw [if_neg (by decide)] at h1 h2
      rw [← h1, ← h2]
      exact ⟨rfl, rfl, fun _ => rfl⟩
    · rw [if_pos rfl] at h1 h2
      have : 1 ≤ s ∧ s ≤ 65536 := by simpa [szB] using h3
      rw [← h1, ← h2]
      exact ⟨rfl, by rw [decide_eq_true_eq]; omega, fun q => by cases q⟩
  clear HU8 HU6 HU5 HU4 HU3 HNE HSZ HK HBK HFR HSS
  go_upto_region 14 with (fail)
  refine wp_abs (fun a0 => a0.tmps.size = 84 ∧ a0.tmps[3]? = some (.pointer (some ⟨w.heap.size, 0, none⟩)) ∧ a0.tmps[5]? = some (.pointer (some ⟨u1.heap.size, 0, none⟩)) ∧ a0.tmps[6]? = some (.int .i64 ne) ∧ a0.tmps[7]? = some (.pointer (some ⟨u2.heap.size, 0, none⟩)) ∧ a0.tmps[8]? = some (.int .i64 fr) ∧ a0.tmps[9]? = some (.int .i64 k) ∧ a0.tmps[10]? = some (.int .i64 fr) ∧ a0.defers = []) ⟨rfl, rfl, rfl, rfl, rfl, rfl, rfl, rfl, rfl⟩ ?_
  rintro a0 ⟨hsz, p3, p5, p6, p7, p8, p9, p10, hdf⟩ ha0
  have s3 := at_of p3
  have s5 := at_of p5
  have s6 := at_of p6
  have s7 := at_of p7
  have s8 := at_of p8
  have s9 := at_of p9
  have s10 := at_of p10
  clear ha0
  refine wp_region_held (S := fun W => Below u8.heap.size u8 W) (by kernel_rfl) ?_
  have hS0 : Below u8.heap.size u8 u8.drew := (Below.refl _ _).drew
  refine g_take (i := 0) (arV nz (.slice none 0 0)) rfl (by kernel_rfl) (by kernel_rfl) (by kernel_rfl) (fun _ _ _ h => h) (wanted_none rfl) hS0 (fun W hW => by obtain ⟨⟨zb, x0, x1⟩, _⟩ := boxC (HE.out W hW).1; simp [execOp, go_sem, Act.put, hsz, s3, s5, s6, s7, s8, s9, s10, x0, x1, zb]) ?_
  refine g_take (i := 1) (arV nz (.slice none 0 0)) rfl (by kernel_rfl) (by kernel_rfl) (by kernel_rfl) (fun _ _ _ h => h) (wanted_none rfl) hS0 (fun W hW => by obtain ⟨⟨zb, x0, x1⟩, _⟩ := boxC (HE.out W hW).2.1; simp [execOp, go_sem, Act.put, hsz, s3, s5, s6, s7, s8, s9, s10, x0, x1, zb]) ?_
  refine g_call (i := 2) 13 #[arV nz (.slice none 0 0), arV nz (.slice none 0 0)] rfl (by kernel_rfl) (wanted_none rfl) (by simp [execOp, go_sem, Act.put, hsz, s3, s5, s6, s7, s8, s9, s10]) ((HSA.out _ hS0).mono ?_)
  rintro e v1 ⟨rfl, hv1⟩
  have hS1 : Below u8.heap.size u8 v1 := bsq hS0 hv1
  refine ⟨_, rfl, hS1, ?_⟩
  refine g_take (i := 3) (.bool true) rfl (by kernel_rfl) (by kernel_rfl) (by kernel_rfl) (fun _ _ _ h => h) (wanted_none rfl) hS1 (fun W hW => by simp [execOp, go_sem, Act.put, hsz, s3, s5, s6, s7, s8, s9, s10]) ?_
  refine abs_any (fun a0 => a0.tmps.size = 84 ∧ a0.tmps[3]? = some (.pointer (some ⟨w.heap.size, 0, none⟩)) ∧ a0.tmps[5]? = some (.pointer (some ⟨u1.heap.size, 0, none⟩)) ∧ a0.tmps[6]? = some (.int .i64 ne) ∧ a0.tmps[7]? = some (.pointer (some ⟨u2.heap.size, 0, none⟩)) ∧ a0.tmps[8]? = some (.int .i64 fr) ∧ a0.tmps[9]? = some (.int .i64 k) ∧ a0.tmps[10]? = some (.int .i64 fr) ∧ a0.defers = [] ∧ a0.tmps[50]? = some (.bool true)) ⟨by simp [put_size, hsz], by simp [Act.put, Array.getElem?_setIfInBounds, hsz, s3], by simp [Act.put, Array.getElem?_setIfInBounds, hsz, s5], by simp [Act.put, Array.getElem?_setIfInBounds, hsz, s6], by simp [Act.put, Array.getElem?_setIfInBounds, hsz, s7], by simp [Act.put, Array.getElem?_setIfInBounds, hsz, s8], by simp [Act.put, Array.getElem?_setIfInBounds, hsz, s9], by simp [Act.put, Array.getElem?_setIfInBounds, hsz, s10], by simp [put_defers, hdf], by simp [Act.put, Array.getElem?_setIfInBounds, hsz]⟩ ?_
  clear hsz s3 s5 s6 s7 s8 s9 s10 p3 p5 p6 p7 p8 p9 p10 hdf
  clear a0
  rintro a0 ⟨hsz, p3, p5, p6, p7, p8, p9, p10, hdf, p50⟩
  have s3 := at_of p3
  have s5 := at_of p5
  have s6 := at_of p6
  have s7 := at_of p7
  have s8 := at_of p8
  have s9 := at_of p9
  have s10 := at_of p10
  have t50 := at_of p50
  refine g_take (i := 4) (.int .i64 ne) rfl (by kernel_rfl) (by kernel_rfl) (by kernel_rfl) (fun _ _ _ h => h) (wanted_of 3 true 50 rfl (by kernel_rfl) (by simp [Act.put, Array.getElem?_setIfInBounds, hsz, t50])) hS1 (fun W hW => by simp [execOp, go_sem, Act.put, hsz, s3, s5, s6, s7, s8, s9, s10, t50]) ?_
  refine g_take (i := 5) (.bool b1) rfl (by kernel_rfl) (by kernel_rfl) (by kernel_rfl) (fun _ _ _ h => h) (wanted_of 3 true 50 rfl (by kernel_rfl) (by simp [Act.put, Array.getElem?_setIfInBounds, hsz, t50])) hS1 (fun W hW => by simp [execOp, go_sem, Act.put, hsz, s3, s5, s6, s7, s8, s9, s10, t50, q1]) ?_
  refine g_take (i := 6) (.pointer (some ⟨u2.heap.size, 0, none⟩)) rfl (by kernel_rfl) (by kernel_rfl) (by kernel_rfl) (fun _ _ _ h => h) (wanted_of 3 true 50 rfl (by kernel_rfl) (by simp [Act.put, Array.getElem?_setIfInBounds, hsz, t50])) hS1 (fun W hW => by simp [execOp, go_sem, Act.put, hsz, s3, s5, s6, s7, s8, s9, s10, t50]) ?_
  refine g_take (i := 7) (.int .i64 nz) rfl (by kernel_rfl) (by kernel_rfl) (by kernel_rfl) (fun _ _ _ h => h) (wanted_of 3 true 50 rfl (by kernel_rfl) (by simp [Act.put, Array.getElem?_setIfInBounds, hsz, t50])) hS1 (fun W hW => by obtain ⟨⟨zb, x0, x1⟩, _⟩ := boxC (HE.out W hW).2.1; simp [execOp, go_sem, Act.put, hsz, s3, s5, s6, s7, s8, s9, s10, t50, x0, x1, zb]) ?_
  refine g_take (i := 8) (.bool b1) rfl (by kernel_rfl) (by kernel_rfl) (by kernel_rfl) (fun _ _ _ h => h) (wanted_of 3 true 50 rfl (by kernel_rfl) (by simp [Act.put, Array.getElem?_setIfInBounds, hsz, t50])) hS1 (fun W hW => by simp [execOp, go_sem, Act.put, hsz, s3, s5, s6, s7, s8, s9, s10, t50, q2]) ?_
  refine g_take (i := 9) (.bool true) rfl (by kernel_rfl) (by kernel_rfl) (by kernel_rfl) (fun _ _ _ h => h) (wanted_of 3 true 50 rfl (by kernel_rfl) (by simp [Act.put, Array.getElem?_setIfInBounds, hsz, t50])) hS1 (fun W hW => by simp [execOp, go_sem, Act.put, hsz, s3, s5, s6, s7, s8, s9, s10, t50]) ?_
  refine g_take (i := 10) (.bool true) rfl (by kernel_rfl) (by kernel_rfl) (by kernel_rfl) (fun _ _ _ h => h) (wanted_none rfl) hS1 (fun W hW => by simp [execOp, go_sem, Act.put, hsz, s3, s5, s6, s7, s8, s9, s10, t50]) ?_
  refine g_take (i := 11) (.bool true) rfl (by kernel_rfl) (by kernel_rfl) (by kernel_rfl) (fun _ _ _ h => h) (wanted_none rfl) hS1 (fun W hW => by simp [execOp, go_sem, Act.put, hsz, s3, s5, s6, s7, s8, s9, s10, t50]) ?_
  refine abs_any (fun a0 => a0.tmps.size = 84 ∧ a0.tmps[3]? = some (.pointer (some ⟨w.heap.size, 0, none⟩)) ∧ a0.tmps[5]? = some (.pointer (some ⟨u1.heap.size, 0, none⟩)) ∧ a0.tmps[6]? = some (.int .i64 ne) ∧ a0.tmps[7]? = some (.pointer (some ⟨u2.heap.size, 0, none⟩)) ∧ a0.tmps[8]? = some (.int .i64 fr) ∧ a0.tmps[9]? = some (.int .i64 k) ∧ a0.tmps[10]? = some (.int .i64 fr) ∧ a0.defers = [] ∧ a0.tmps[58]? = some (.bool true)) ⟨by simp [put_size, hsz], by simp [Act.put, Array.getElem?_setIfInBounds, hsz, s3], by simp [Act.put, Array.getElem?_setIfInBounds, hsz, s5], by simp [Act.put, Array.getElem?_setIfInBounds, hsz, s6], by simp [Act.put, Array.getElem?_setIfInBounds, hsz, s7], by simp [Act.put, Array.getElem?_setIfInBounds, hsz, s8], by simp [Act.put, Array.getElem?_setIfInBounds, hsz, s9], by simp [Act.put, Array.getElem?_setIfInBounds, hsz, s10], by simp [put_defers, hdf], by simp [Act.put, Array.getElem?_setIfInBounds, hsz]⟩ ?_
  clear hsz s3 s5 s6 s7 s8 s9 s10 p3 p5 p6 p7 p8 p9 p10 hdf t50 p50
  clear a0
  rintro a0 ⟨hsz, p3, p5, p6, p7, p8, p9, p10, hdf, p58⟩
  have s3 := at_of p3
  have s5 := at_of p5
  have s6 := at_of p6
  have s7 := at_of p7
  have s8 := at_of p8
  have s9 := at_of p9
  have s10 := at_of p10
  have t58 := at_of p58
  cases b1
  · refine g_take (i := 12) (.int .i64 ne) rfl (by kernel_rfl) (by kernel_rfl) (by kernel_rfl) (fun _ _ _ h => h) (wanted_of 11 true 58 rfl (by kernel_rfl) (by simp [Act.put, Array.getElem?_setIfInBounds, hsz, t58])) hS1 (fun W hW => by simp [execOp, go_sem, Act.put, hsz, s3, s5, s6, s7, s8, s9, s10, t58]) ?_
    refine g_take (i := 13) (.bool false) rfl (by kernel_rfl) (by kernel_rfl) (by kernel_rfl) (fun _ _ _ h => h) (wanted_of 11 true 58 rfl (by kernel_rfl) (by simp [Act.put, Array.getElem?_setIfInBounds, hsz, t58])) hS1 (fun W hW => by simp [execOp, go_sem, Act.put, hsz, s3, s5, s6, s7, s8, s9, s10, t58, q1]) ?_
    refine g_take (i := 14) (.bool false) rfl (by kernel_rfl) (by kernel_rfl) (by kernel_rfl) (fun _ _ _ h => h) (wanted_of 11 true 58 rfl (by kernel_rfl) (by simp [Act.put, Array.getElem?_setIfInBounds, hsz, t58])) hS1 (fun W hW => by simp [execOp, go_sem, Act.put, hsz, s3, s5, s6, s7, s8, s9, s10, t58]) ?_
    refine g_take (i := 15) (.int .i64 ne) rfl (by kernel_rfl) (by kernel_rfl) (by kernel_rfl) (fun _ _ _ h => h) (wanted_of 14 false 61 rfl (by kernel_rfl) (by simp [Act.put, Array.getElem?_setIfInBounds, hsz, hsz])) hS1 (fun W hW => by simp [execOp, go_sem, Act.put, hsz, s3, s5, s6, s7, s8, s9, s10, t58]) ?_
    refine g_take (i := 16) (.bool true) rfl (by kernel_rfl) (by kernel_rfl) (by kernel_rfl) (fun _ _ _ h => h) (wanted_of 14 false 61 rfl (by kernel_rfl) (by simp [Act.put, Array.getElem?_setIfInBounds, hsz, hsz])) hS1 (fun W hW => by simp [execOp, go_sem, Act.put, hsz, s3, s5, s6, s7, s8, s9, s10, t58, q3 rfl]) ?_
    refine g_take (i := 17) (.bool true) rfl (by kernel_rfl) (by kernel_rfl) (by kernel_rfl) (fun _ _ _ h => h) (wanted_of 11 true 58 rfl (by kernel_rfl) (by simp [Act.put, Array.getElem?_setIfInBounds, hsz, t58])) hS1 (fun W hW => by simp [execOp, go_sem, Act.put, hsz, s3, s5, s6, s7, s8, s9, s10, t58]) ?_
    refine g_take (i := 18) (.bool true) rfl (by kernel_rfl) (by kernel_rfl) (by kernel_rfl) (fun _ _ _ h => h) (wanted_none rfl) hS1 (fun W hW => by simp [execOp, go_sem, Act.put, hsz, s3, s5, s6, s7, s8, s9, s10, t58]) ?_
    refine g_take (i := 19) (.bool true) rfl (by kernel_rfl) (by kernel_rfl) (by kernel_rfl) (fun _ _ _ h => h) (wanted_none rfl) hS1 (fun W hW => by simp [execOp, go_sem, Act.put, hsz, s3, s5, s6, s7, s8, s9, s10, t58]) ?_
    refine abs_any (fun a0 => a0.tmps.size = 84 ∧ a0.tmps[3]? = some (.pointer (some ⟨w.heap.size, 0, none⟩)) ∧ a0.tmps[5]? = some (.pointer (some ⟨u1.heap.size, 0, none⟩)) ∧ a0.tmps[6]? = some (.int .i64 ne) ∧ a0.tmps[7]? = some (.pointer (some ⟨u2.heap.size, 0, none⟩)) ∧ a0.tmps[8]? = some (.int .i64 fr) ∧ a0.tmps[9]? = some (.int .i64 k) ∧ a0.tmps[10]? = some (.int .i64 fr) ∧ a0.defers = [] ∧ a0.tmps[66]? = some (.bool true)) ⟨by simp [put_size, hsz], by simp [Act.put, Array.getElem?_setIfInBounds, hsz, s3], by simp [Act.put, Array.getElem?_setIfInBounds, hsz, s5], by simp [Act.put, Array.getElem?_setIfInBounds, hsz, s6], by simp [Act.put, Array.getElem?_setIfInBounds, hsz, s7], by simp [Act.put, Array.getElem?_setIfInBounds, hsz, s8], by simp [Act.put, Array.getElem?_setIfInBounds, hsz, s9], by simp [Act.put, Array.getElem?_setIfInBounds, hsz, s10], by simp [put_defers, hdf], by simp [Act.put, Array.getElem?_setIfInBounds, hsz]⟩ ?_
    clear hsz s3 s5 s6 s7 s8 s9 s10 p3 p5 p6 p7 p8 p9 p10 hdf t58 p58
    clear a0
    rintro a0 ⟨hsz, p3, p5, p6, p7, p8, p9, p10, hdf, p66⟩
    have s3 := at_of p3
    have s5 := at_of p5
    have s6 := at_of p6
    have s7 := at_of p7
    have s8 := at_of p8
    have s9 := at_of p9
    have s10 := at_of p10
    have t66 := at_of p66
    refine g_take (i := 20) (arV z (.slice a n c)) rfl (by kernel_rfl) (by kernel_rfl) (by kernel_rfl) (fun _ _ _ h => h) (wanted_of 19 true 66 rfl (by kernel_rfl) (by simp [Act.put, Array.getElem?_setIfInBounds, hsz, t66])) hS1 (fun W hW => by obtain ⟨⟨zb, x0, x1⟩, _⟩ := boxC (HE.out W hW).2.2.1; simp [execOp, go_sem, Act.put, hsz, s3, s5, s6, s7, s8, s9, s10, t66, x0, x1, zb]) ?_
    refine g_take (i := 22) (arV z (.slice a n c)) rfl (by kernel_rfl) (by kernel_rfl) (by kernel_rfl) (fun _ _ _ h => h) (wanted_of 19 true 66 rfl (by kernel_rfl) (by simp [Act.put, Array.getElem?_setIfInBounds, hsz, t66])) hS1 (fun W hW => by obtain ⟨⟨zb, x0, x1⟩, _⟩ := boxC (HE.out W hW).2.2.1; simp [execOp, go_sem, Act.put, hsz, s3, s5, s6, s7, s8, s9, s10, t66, x0, x1, zb]) ?_
    refine g_call (i := 21) 14 #[arV z (.slice a n c)] rfl (by kernel_rfl) (wanted_of 19 true 66 rfl (by kernel_rfl) (by simp [Act.put, Array.getElem?_setIfInBounds, hsz, t66])) (by simp [execOp, go_sem, Act.put, hsz, s3, s5, s6, s7, s8, s9, s10, t66]) ((HCK.out _ (HE.out _ hS1).2.2.2).mono ?_)
    rintro e v2 ⟨rfl, hv2⟩
    have hS2 : Below u8.heap.size u8 v2 := bsq hS1 hv2
    refine ⟨_, rfl, hS2, ?_⟩
    refine g_call (i := 23) 11 #[arV z (.slice a n c)] rfl (by kernel_rfl) (wanted_of 19 true 66 rfl (by kernel_rfl) (by simp [Act.put, Array.getElem?_setIfInBounds, hsz, t66])) (by simp [execOp, go_sem, Act.put, hsz, s3, s5, s6, s7, s8, s9, s10, t66]) ((HRA.out _ (HE.out _ hS2).2.2.2).mono ?_)
    rintro e v3 ⟨rfl, hv3⟩
    have hS3 : Below u8.heap.size u8 v3 := bsq hS2 hv3
    refine ⟨_, rfl, hS3, ?_⟩
    refine g_take (i := 24) (.bool true) rfl (by kernel_rfl) (by kernel_rfl) (by kernel_rfl) (fun _ _ _ h => h) (wanted_of 19 true 66 rfl (by kernel_rfl) (by simp [Act.put, Array.getElem?_setIfInBounds, hsz, t66])) hS3 (fun W hW => by simp [execOp, go_sem, Act.put, hsz, s3, s5, s6, s7, s8, s9, s10, t66]) ?_
    refine g_take (i := 25) (.bool true) rfl (by kernel_rfl) (by kernel_rfl) (by kernel_rfl) (fun _ _ _ h => h) (wanted_none rfl) hS3 (fun W hW => by simp [execOp, go_sem, Act.put, hsz, s3, s5, s6, s7, s8, s9, s10, t66]) ?_
    refine g_take (i := 26) (.bool true) rfl (by kernel_rfl) (by kernel_rfl) (by kernel_rfl) (fun _ _ _ h => h) (wanted_none rfl) hS3 (fun W hW => by simp [execOp, go_sem, Act.put, hsz, s3, s5, s6, s7, s8, s9, s10, t66]) ?_
    refine abs_any (fun a0 => a0.tmps.size = 84 ∧ a0.tmps[3]? = some (.pointer (some ⟨w.heap.size, 0, none⟩)) ∧ a0.tmps[5]? = some (.pointer (some ⟨u1.heap.size, 0, none⟩)) ∧ a0.tmps[6]? = some (.int .i64 ne) ∧ a0.tmps[7]? = some (.pointer (some ⟨u2.heap.size, 0, none⟩)) ∧ a0.tmps[8]? = some (.int .i64 fr) ∧ a0.tmps[9]? = some (.int .i64 k) ∧ a0.tmps[10]? = some (.int .i64 fr) ∧ a0.defers = [] ∧ a0.tmps[73]? = some (.bool true)) ⟨by simp [put_size, hsz], by simp [Act.put, Array.getElem?_setIfInBounds, hsz, s3], by simp [Act.put, Array.getElem?_setIfInBounds, hsz, s5], by simp [Act.put, Array.getElem?_setIfInBounds, hsz, s6], by simp [Act.put, Array.getElem?_setIfInBounds, hsz, s7], by simp [Act.put, Array.getElem?_setIfInBounds, hsz, s8], by simp [Act.put, Array.getElem?_setIfInBounds, hsz, s9], by simp [Act.put, Array.getElem?_setIfInBounds, hsz, s10], by simp [put_defers, hdf], by simp [Act.put, Array.getElem?_setIfInBounds, hsz]⟩ ?_
    clear hsz s3 s5 s6 s7 s8 s9 s10 p3 p5 p6 p7 p8 p9 p10 hdf t66 p66
    clear a0
    rintro a0 ⟨hsz, p3, p5, p6, p7, p8, p9, p10, hdf, p73⟩
    have s3 := at_of p3
    have s5 := at_of p5
    have s6 := at_of p6
    have s7 := at_of p7
    have s8 := at_of p8
    have s9 := at_of p9
    have s10 := at_of p10
    have t73 := at_of p73
    refine g_take (i := 27) (.int .i64 k) rfl (by kernel_rfl) (by kernel_rfl) (by kernel_rfl) (fun _ _ _ h => h) (wanted_of 26 true 73 rfl (by kernel_rfl) (by simp [Act.put, Array.getElem?_setIfInBounds, hsz, t73])) hS3 (fun W hW => by simp [execOp, go_sem, Act.put, hsz, s3, s5, s6, s7, s8, s9, s10, t73]) ?_
    refine g_take (i := 28) (arV z (.slice a n c)) rfl (by kernel_rfl) (by kernel_rfl) (by kernel_rfl) (fun _ _ _ h => h) (wanted_of 26 true 73 rfl (by kernel_rfl) (by simp [Act.put, Array.getElem?_setIfInBounds, hsz, t73])) hS3 (fun W hW => by obtain ⟨⟨zb, x0, x1⟩, _⟩ := boxC (HE.out W hW).2.2.1; simp [execOp, go_sem, Act.put, hsz, s3, s5, s6, s7, s8, s9, s10, t73, x0, x1, zb]) ?_
    refine g_call (i := 29) 11 #[arV z (.slice a n c)] rfl (by kernel_rfl) (wanted_of 26 true 73 rfl (by kernel_rfl) (by simp [Act.put, Array.getElem?_setIfInBounds, hsz, t73])) (by simp [execOp, go_sem, Act.put, hsz, s3, s5, s6, s7, s8, s9, s10, t73]) ((HRA.out _ (HE.out _ hS3).2.2.2).mono ?_)
    rintro e v4 ⟨rfl, hv4⟩
    have hS4 : Below u8.heap.size u8 v4 := bsq hS3 hv4
    refine ⟨_, rfl, hS4, ?_⟩
    refine g_take (i := 30) (.bool true) rfl (by kernel_rfl) (by kernel_rfl) (by kernel_rfl) (fun _ _ _ h => h) (wanted_of 26 true 73 rfl (by kernel_rfl) (by simp [Act.put, Array.getElem?_setIfInBounds, hsz, t73])) hS4 (fun W hW => by simp [execOp, go_sem, Act.put, hsz, s3, s5, s6, s7, s8, s9, s10, t73]) ?_
    refine g_take (i := 31) (.bool true) rfl (by kernel_rfl) (by kernel_rfl) (by kernel_rfl) (fun _ _ _ h => h) (wanted_none rfl) hS4 (fun W hW => by simp [execOp, go_sem, Act.put, hsz, s3, s5, s6, s7, s8, s9, s10, t73]) ?_
    refine g_take (i := 32) (.bool true) rfl (by kernel_rfl) (by kernel_rfl) (by kernel_rfl) (fun _ _ _ h => h) (wanted_none rfl) hS4 (fun W hW => by simp [execOp, go_sem, Act.put, hsz, s3, s5, s6, s7, s8, s9, s10, t73]) ?_
    refine abs_any (fun a0 => a0.tmps.size = 84 ∧ a0.tmps[3]? = some (.pointer (some ⟨w.heap.size, 0, none⟩)) ∧ a0.tmps[5]? = some (.pointer (some ⟨u1.heap.size, 0, none⟩)) ∧ a0.tmps[6]? = some (.int .i64 ne) ∧ a0.tmps[7]? = some (.pointer (some ⟨u2.heap.size, 0, none⟩)) ∧ a0.tmps[8]? = some (.int .i64 fr) ∧ a0.tmps[9]? = some (.int .i64 k) ∧ a0.tmps[10]? = some (.int .i64 fr) ∧ a0.defers = [] ∧ a0.tmps[79]? = some (.bool true)) ⟨by simp [put_size, hsz], by simp [Act.put, Array.getElem?_setIfInBounds, hsz, s3], by simp [Act.put, Array.getElem?_setIfInBounds, hsz, s5], by simp [Act.put, Array.getElem?_setIfInBounds, hsz, s6], by simp [Act.put, Array.getElem?_setIfInBounds, hsz, s7], by simp [Act.put, Array.getElem?_setIfInBounds, hsz, s8], by simp [Act.put, Array.getElem?_setIfInBounds, hsz, s9], by simp [Act.put, Array.getElem?_setIfInBounds, hsz, s10], by simp [put_defers, hdf], by simp [Act.put, Array.getElem?_setIfInBounds, hsz]⟩ ?_
    clear hsz s3 s5 s6 s7 s8 s9 s10 p3 p5 p6 p7 p8 p9 p10 hdf t73 p73
    clear a0
    rintro a0 ⟨hsz, p3, p5, p6, p7, p8, p9, p10, hdf, p79⟩
    have s3 := at_of p3
    have s5 := at_of p5
    have s6 := at_of p6
    have s7 := at_of p7
    have s8 := at_of p8
    have s9 := at_of p9
    have s10 := at_of p10
    have t79 := at_of p79
    refine g_take (i := 33) (.int .i64 fr) rfl (by kernel_rfl) (by kernel_rfl) (by kernel_rfl) (fun _ _ _ h => h) (wanted_of 32 true 79 rfl (by kernel_rfl) (by simp [Act.put, Array.getElem?_setIfInBounds, hsz, t79])) hS4 (fun W hW => by simp [execOp, go_sem, Act.put, hsz, s3, s5, s6, s7, s8, s9, s10, t79]) ?_
    refine g_take (i := 34) (.int .i64 fr) rfl (by kernel_rfl) (by kernel_rfl) (by kernel_rfl) (fun _ _ _ h => h) (wanted_of 32 true 79 rfl (by kernel_rfl) (by simp [Act.put, Array.getElem?_setIfInBounds, hsz, t79])) hS4 (fun W hW => by simp [execOp, go_sem, Act.put, hsz, s3, s5, s6, s7, s8, s9, s10, t79]) ?_
    refine g_take (i := 35) (.bool true) rfl (by kernel_rfl) (by kernel_rfl) (by kernel_rfl) (fun _ _ _ h => h) (wanted_of 32 true 79 rfl (by kernel_rfl) (by simp [Act.put, Array.getElem?_setIfInBounds, hsz, t79])) hS4 (fun W hW => by simp [execOp, go_sem, Act.put, hsz, s3, s5, s6, s7, s8, s9, s10, t79]) ?_
    refine g_take (i := 36) (.bool true) rfl (by kernel_rfl) (by kernel_rfl) (by kernel_rfl) (fun _ _ _ h => h) (wanted_none rfl) hS4 (fun W hW => by simp [execOp, go_sem, Act.put, hsz, s3, s5, s6, s7, s8, s9, s10, t79]) ?_
    refine g_take (i := 37) (.bool true) rfl (by kernel_rfl) (by kernel_rfl) (by kernel_rfl) (fun _ _ _ h => h) (wanted_none rfl) hS4 (fun W hW => by simp [execOp, go_sem, Act.put, hsz, s3, s5, s6, s7, s8, s9, s10, t79]) ?_
    refine wpAnyH_done (by kernel_rfl) ?_ _
    have HF : Below w.heap.size w v4 := HW.out _ (HE.out _ hS4).2.2.2
    first | (rename_i hK; exact hK _ _ (wp_ret (bodyPost_ret (v := .bool true) (by simp [results, Try.results3, go_sem, Act.put, hsz, s3, s5, s6, s7, s8, s9, s10, t79]) (by simp [put_defers, hdf]) ⟨rfl, HF⟩))) | (rename_i hK hX; exact hK _ _ (wp_ret (bodyPost_ret (v := .bool true) (by simp [results, Try.results3, go_sem, Act.put, hsz, s3, s5, s6, s7, s8, s9, s10, t79]) (by simp [put_defers, hdf]) ⟨rfl, HF⟩)))
  · refine g_take (i := 12) (.int .i64 ne) rfl (by kernel_rfl) (by kernel_rfl) (by kernel_rfl) (fun _ _ _ h => h) (wanted_of 11 true 58 rfl (by kernel_rfl) (by simp [Act.put, Array.getElem?_setIfInBounds, hsz, t58])) hS1 (fun W hW => by simp [execOp, go_sem, Act.put, hsz, s3, s5, s6, s7, s8, s9, s10, t58]) ?_
    refine g_take (i := 13) (.bool true) rfl (by kernel_rfl) (by kernel_rfl) (by kernel_rfl) (fun _ _ _ h => h) (wanted_of 11 true 58 rfl (by kernel_rfl) (by simp [Act.put, Array.getElem?_setIfInBounds, hsz, t58])) hS1 (fun W hW => by simp [execOp, go_sem, Act.put, hsz, s3, s5, s6, s7, s8, s9, s10, t58, q1]) ?_
    refine g_take (i := 14) (.bool true) rfl (by kernel_rfl) (by kernel_rfl) (by kernel_rfl) (fun _ _ _ h => h) (wanted_of 11 true 58 rfl (by kernel_rfl) (by simp [Act.put, Array.getElem?_setIfInBounds, hsz, t58])) hS1 (fun W hW => by simp [execOp, go_sem, Act.put, hsz, s3, s5, s6, s7, s8, s9, s10, t58]) ?_
    refine g_pass (i := 15) rfl (by kernel_rfl) (by kernel_rfl) (by kernel_rfl) (fun _ _ _ h => h) (unwanted_of 14 false 61 rfl (by kernel_rfl) (by simp [Act.put, Array.getElem?_setIfInBounds, hsz, hsz])) hS1 ?_
    refine g_pass (i := 16) rfl (by kernel_rfl) (by kernel_rfl) (by kernel_rfl) (fun _ _ _ h => h) (unwanted_of 14 false 61 rfl (by kernel_rfl) (by simp [Act.put, Array.getElem?_setIfInBounds, hsz, hsz])) hS1 ?_
    refine g_take (i := 17) (.bool true) rfl (by kernel_rfl) (by kernel_rfl) (by kernel_rfl) (fun _ _ _ h => h) (wanted_of 11 true 58 rfl (by kernel_rfl) (by simp [Act.put, Array.getElem?_setIfInBounds, hsz, t58])) hS1 (fun W hW => by simp [execOp, go_sem, Act.put, hsz, s3, s5, s6, s7, s8, s9, s10, t58]) ?_
    refine g_take (i := 18) (.bool true) rfl (by kernel_rfl) (by kernel_rfl) (by kernel_rfl) (fun _ _ _ h => h) (wanted_none rfl) hS1 (fun W hW => by simp [execOp, go_sem, Act.put, hsz, s3, s5, s6, s7, s8, s9, s10, t58]) ?_
    refine g_take (i := 19) (.bool true) rfl (by kernel_rfl) (by kernel_rfl) (by kernel_rfl) (fun _ _ _ h => h) (wanted_none rfl) hS1 (fun W hW => by simp [execOp, go_sem, Act.put, hsz, s3, s5, s6, s7, s8, s9, s10, t58]) ?_
    refine abs_any (fun a0 => a0.tmps.size = 84 ∧ a0.tmps[3]? = some (.pointer (some ⟨w.heap.size, 0, none⟩)) ∧ a0.tmps[5]? = some (.pointer (some ⟨u1.heap.size, 0, none⟩)) ∧ a0.tmps[6]? = some (.int .i64 ne) ∧ a0.tmps[7]? = some (.pointer (some ⟨u2.heap.size, 0, none⟩)) ∧ a0.tmps[8]? = some (.int .i64 fr) ∧ a0.tmps[9]? = some (.int .i64 k) ∧ a0.tmps[10]? = some (.int .i64 fr) ∧ a0.defers = [] ∧ a0.tmps[66]? = some (.bool true)) ⟨by simp [put_size, hsz], by simp [Act.put, Array.getElem?_setIfInBounds, hsz, s3], by simp [Act.put, Array.getElem?_setIfInBounds, hsz, s5], by simp [Act.put, Array.getElem?_setIfInBounds, hsz, s6], by simp [Act.put, Array.getElem?_setIfInBounds, hsz, s7], by simp [Act.put, Array.getElem?_setIfInBounds, hsz, s8], by simp [Act.put, Array.getElem?_setIfInBounds, hsz, s9], by simp [Act.put, Array.getElem?_setIfInBounds, hsz, s10], by simp [put_defers, hdf], by simp [Act.put, Array.getElem?_setIfInBounds, hsz]⟩ ?_
    clear hsz s3 s5 s6 s7 s8 s9 s10 p3 p5 p6 p7 p8 p9 p10 hdf t58 p58
    clear a0
    rintro a0 ⟨hsz, p3, p5, p6, p7, p8, p9, p10, hdf, p66⟩
    have s3 := at_of p3
    have s5 := at_of p5
    have s6 := at_of p6
    have s7 := at_of p7
    have s8 := at_of p8
    have s9 := at_of p9
    have s10 := at_of p10
    have t66 := at_of p66
    refine g_take (i := 20) (arV z (.slice a n c)) rfl (by kernel_rfl) (by kernel_rfl) (by kernel_rfl) (fun _ _ _ h => h) (wanted_of 19 true 66 rfl (by kernel_rfl) (by simp [Act.put, Array.getElem?_setIfInBounds, hsz, t66])) hS1 (fun W hW => by obtain ⟨⟨zb, x0, x1⟩, _⟩ := boxC (HE.out W hW).2.2.1; simp [execOp, go_sem, Act.put, hsz, s3, s5, s6, s7, s8, s9, s10, t66, x0, x1, zb]) ?_
    refine g_take (i := 22) (arV z (.slice a n c)) rfl (by kernel_rfl) (by kernel_rfl) (by kernel_rfl) (fun _ _ _ h => h) (wanted_of 19 true 66 rfl (by kernel_rfl) (by simp [Act.put, Array.getElem?_setIfInBounds, hsz, t66])) hS1 (fun W hW => by obtain ⟨⟨zb, x0, x1⟩, _⟩ := boxC (HE.out W hW).2.2.1; simp [execOp, go_sem, Act.put, hsz, s3, s5, s6, s7, s8, s9, s10, t66, x0, x1, zb]) ?_
    refine g_call (i := 21) 14 #[arV z (.slice a n c)] rfl (by kernel_rfl) (wanted_of 19 true 66 rfl (by kernel_rfl) (by simp [Act.put, Array.getElem?_setIfInBounds, hsz, t66])) (by simp [execOp, go_sem, Act.put, hsz, s3, s5, s6, s7, s8, s9, s10, t66]) ((HCK.out _ (HE.out _ hS1).2.2.2).mono ?_)
    rintro e v2 ⟨rfl, hv2⟩
    have hS2 : Below u8.heap.size u8 v2 := bsq hS1 hv2
    refine ⟨_, rfl, hS2, ?_⟩
    refine g_call (i := 23) 11 #[arV z (.slice a n c)] rfl (by kernel_rfl) (wanted_of 19 true 66 rfl (by kernel_rfl) (by simp [Act.put, Array.getElem?_setIfInBounds, hsz, t66])) (by simp [execOp, go_sem, Act.put, hsz, s3, s5, s6, s7, s8, s9, s10, t66]) ((HRA.out _ (HE.out _ hS2).2.2.2).mono ?_)
    rintro e v3 ⟨rfl, hv3⟩
    have hS3 : Below u8.heap.size u8 v3 := bsq hS2 hv3
    refine ⟨_, rfl, hS3, ?_⟩
    refine g_take (i := 24) (.bool true) rfl (by kernel_rfl) (by kernel_rfl) (by kernel_rfl) (fun _ _ _ h => h) (wanted_of 19 true 66 rfl (by kernel_rfl) (by simp [Act.put, Array.getElem?_setIfInBounds, hsz, t66])) hS3 (fun W hW => by simp [execOp, go_sem, Act.put, hsz, s3, s5, s6, s7, s8, s9, s10, t66]) ?_
    refine g_take (i := 25) (.bool true) rfl (by kernel_rfl) (by kernel_rfl) (by kernel_rfl) (fun _ _ _ h => h) (wanted_none rfl) hS3 (fun W hW => by simp [execOp, go_sem, Act.put, hsz, s3, s5, s6, s7, s8, s9, s10, t66]) ?_
    refine g_take (i := 26) (.bool true) rfl (by kernel_rfl) (by kernel_rfl) (by kernel_rfl) (fun _ _ _ h => h) (wanted_none rfl) hS3 (fun W hW => by simp [execOp, go_sem, Act.put, hsz, s3, s5, s6, s7, s8, s9, s10, t66]) ?_
    refine abs_any (fun a0 => a0.tmps.size = 84 ∧ a0.tmps[3]? = some (.pointer (some ⟨w.heap.size, 0, none⟩)) ∧ a0.tmps[5]? = some (.pointer (some ⟨u1.heap.size, 0, none⟩)) ∧ a0.tmps[6]? = some (.int .i64 ne) ∧ a0.tmps[7]? = some (.pointer (some ⟨u2.heap.size, 0, none⟩)) ∧ a0.tmps[8]? = some (.int .i64 fr) ∧ a0.tmps[9]? = some (.int .i64 k) ∧ a0.tmps[10]? = some (.int .i64 fr) ∧ a0.defers = [] ∧ a0.tmps[73]? = some (.bool true)) ⟨by simp [put_size, hsz], by simp [Act.put, Array.getElem?_setIfInBounds, hsz, s3], by simp [Act.put, Array.getElem?_setIfInBounds, hsz, s5], by simp [Act.put, Array.getElem?_setIfInBounds, hsz, s6], by simp [Act.put, Array.getElem?_setIfInBounds, hsz, s7], by simp [Act.put, Array.getElem?_setIfInBounds, hsz, s8], by simp [Act.put, Array.getElem?_setIfInBounds, hsz, s9], by simp [Act.put, Array.getElem?_setIfInBounds, hsz, s10], by simp [put_defers, hdf], by simp [Act.put, Array.getElem?_setIfInBounds, hsz]⟩ ?_
    clear hsz s3 s5 s6 s7 s8 s9 s10 p3 p5 p6 p7 p8 p9 p10 hdf t66 p66
    clear a0
    rintro a0 ⟨hsz, p3, p5, p6, p7, p8, p9, p10, hdf, p73⟩
    have s3 := at_of p3
    have s5 := at_of p5
    have s6 := at_of p6
    have s7 := at_of p7
    have s8 := at_of p8
    have s9 := at_of p9
    have s10 := at_of p10
    have t73 := at_of p73
    refine g_take (i := 27) (.int .i64 k) rfl (by kernel_rfl) (by kernel_rfl) (by kernel_rfl) (fun _ _ _ h => h) (wanted_of 26 true 73 rfl (by kernel_rfl) (by simp [Act.put, Array.getElem?_setIfInBounds, hsz, t73])) hS3 (fun W hW => by simp [execOp, go_sem, Act.put, hsz, s3, s5, s6, s7, s8, s9, s10, t73]) ?_
    refine g_take (i := 28) (arV z (.slice a n c)) rfl (by kernel_rfl) (by kernel_rfl) (by kernel_rfl) (fun _ _ _ h => h) (wanted_of 26 true 73 rfl (by kernel_rfl) (by simp [Act.put, Array.getElem?_setIfInBounds, hsz, t73])) hS3 (fun W hW => by obtain ⟨⟨zb, x0, x1⟩, _⟩ := boxC (HE.out W hW).2.2.1; simp [execOp, go_sem, Act.put, hsz, s3, s5, s6, s7, s8, s9, s10, t73, x0, x1, zb]) ?_
    refine g_call (i := 29) 11 #[arV z (.slice a n c)] rfl (by kernel_rfl) (wanted_of 26 true 73 rfl (by kernel_rfl) (by simp [Act.put, Array.getElem?_setIfInBounds, hsz, t73])) (by simp [execOp, go_sem, Act.put, hsz, s3, s5, s6, s7, s8, s9, s10, t73]) ((HRA.out _ (HE.out _ hS3).2.2.2).mono ?_)
    rintro e v4 ⟨rfl, hv4⟩
    have hS4 : Below u8.heap.size u8 v4 := bsq hS3 hv4
    refine ⟨_, rfl, hS4, ?_⟩
    refine g_take (i := 30) (.bool true) rfl (by kernel_rfl) (by kernel_rfl) (by kernel_rfl) (fun _ _ _ h => h) (wanted_of 26 true 73 rfl (by kernel_rfl) (by simp [Act.put, Array.getElem?_setIfInBounds, hsz, t73])) hS4 (fun W hW => by simp [execOp, go_sem, Act.put, hsz, s3, s5, s6, s7, s8, s9, s10, t73]) ?_
    refine g_take (i := 31) (.bool true) rfl (by kernel_rfl) (by kernel_rfl) (by kernel_rfl) (fun _ _ _ h => h) (wanted_none rfl) hS4 (fun W hW => by simp [execOp, go_sem, Act.put, hsz, s3, s5, s6, s7, s8, s9, s10, t73]) ?_
    refine g_take (i := 32) (.bool true) rfl (by kernel_rfl) (by kernel_rfl) (by kernel_rfl) (fun _ _ _ h => h) (wanted_none rfl) hS4 (fun W hW => by simp [execOp, go_sem, Act.put, hsz, s3, s5, s6, s7, s8, s9, s10, t73]) ?_
    refine abs_any (fun a0 => a0.tmps.size = 84 ∧ a0.tmps[3]? = some (.pointer (some ⟨w.heap.size, 0, none⟩)) ∧ a0.tmps[5]? = some (.pointer (some ⟨u1.heap.size, 0, none⟩)) ∧ a0.tmps[6]? = some (.int .i64 ne) ∧ a0.tmps[7]? = some (.pointer (some ⟨u2.heap.size, 0, none⟩)) ∧ a0.tmps[8]? = some (.int .i64 fr) ∧ a0.tmps[9]? = some (.int .i64 k) ∧ a0.tmps[10]? = some (.int .i64 fr) ∧ a0.defers = [] ∧ a0.tmps[79]? = some (.bool true)) ⟨by simp [put_size, hsz], by simp [Act.put, Array.getElem?_setIfInBounds, hsz, s3], by simp [Act.put, Array.getElem?_setIfInBounds, hsz, s5], by simp [Act.put, Array.getElem?_setIfInBounds, hsz, s6], by simp [Act.put, Array.getElem?_setIfInBounds, hsz, s7], by simp [Act.put, Array.getElem?_setIfInBounds, hsz, s8], by simp [Act.put, Array.getElem?_setIfInBounds, hsz, s9], by simp [Act.put, Array.getElem?_setIfInBounds, hsz, s10], by simp [put_defers, hdf], by simp [Act.put, Array.getElem?_setIfInBounds, hsz]⟩ ?_
    clear hsz s3 s5 s6 s7 s8 s9 s10 p3 p5 p6 p7 p8 p9 p10 hdf t73 p73
    clear a0
    rintro a0 ⟨hsz, p3, p5, p6, p7, p8, p9, p10, hdf, p79⟩
    have s3 := at_of p3
    have s5 := at_of p5
    have s6 := at_of p6
    have s7 := at_of p7
    have s8 := at_of p8
    have s9 := at_of p9
    have s10 := at_of p10
    have t79 := at_of p79
    refine g_take (i := 33) (.int .i64 fr) rfl (by kernel_rfl) (by kernel_rfl) (by kernel_rfl) (fun _ _ _ h => h) (wanted_of 32 true 79 rfl (by kernel_rfl) (by simp [Act.put, Array.getElem?_setIfInBounds, hsz, t79])) hS4 (fun W hW => by simp [execOp, go_sem, Act.put, hsz, s3, s5, s6, s7, s8, s9, s10, t79]) ?_
    refine g_take (i := 34) (.int .i64 fr) rfl (by kernel_rfl) (by kernel_rfl) (by kernel_rfl) (fun _ _ _ h => h) (wanted_of 32 true 79 rfl (by kernel_rfl) (by simp [Act.put, Array.getElem?_setIfInBounds, hsz, t79])) hS4 (fun W hW => by simp [execOp, go_sem, Act.put, hsz, s3, s5, s6, s7, s8, s9, s10, t79]) ?_
    refine g_take (i := 35) (.bool true) rfl (by kernel_rfl) (by kernel_rfl) (by kernel_rfl) (fun _ _ _ h => h) (wanted_of 32 true 79 rfl (by kernel_rfl) (by simp [Act.put, Array.getElem?_setIfInBounds, hsz, t79])) hS4 (fun W hW => by simp [execOp, go_sem, Act.put, hsz, s3, s5, s6, s7, s8, s9, s10, t79]) ?_
    refine g_take (i := 36) (.bool true) rfl (by kernel_rfl) (by kernel_rfl) (by kernel_rfl) (fun _ _ _ h => h) (wanted_none rfl) hS4 (fun W hW => by simp [execOp, go_sem, Act.put, hsz, s3, s5, s6, s7, s8, s9, s10, t79]) ?_
    refine g_take (i := 37) (.bool true) rfl (by kernel_rfl) (by kernel_rfl) (by kernel_rfl) (fun _ _ _ h => h) (wanted_none rfl) hS4 (fun W hW => by simp [execOp, go_sem, Act.put, hsz, s3, s5, s6, s7, s8, s9, s10, t79]) ?_
    refine wpAnyH_done (by kernel_rfl) ?_ _
    have HF : Below w.heap.size w v4 := HW.out _ (HE.out _ hS4).2.2.2
    first | (rename_i hK; exact hK _ _ (wp_ret (bodyPost_ret (v := .bool true) (by simp [results, Try.results3, go_sem, Act.put, hsz, s3, s5, s6, s7, s8, s9, s10, t79]) (by simp [put_defers, hdf]) ⟨rfl, HF⟩))) | (rename_i hK hX; exact hK _ _ (wp_ret (bodyPost_ret (v := .bool true) (by simp [results, Try.results3, go_sem, Act.put, hsz, s3, s5, s6, s7, s8, s9, s10, t79]) (by simp [put_defers, hdf]) ⟨rfl, HF⟩)))
end Go.Proofs.Ytifebinpjpalhaa.arenaChecks
