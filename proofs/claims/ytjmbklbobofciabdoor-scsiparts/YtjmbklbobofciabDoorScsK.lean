/- scsi: New. -/
import Derived.Test.YtjmbklbobofciabDoorScsI
import Derived.Test.YtjmbklbobofciabDoorScsQ
import Derived.Deep.AppendLies
import Derived.Shelf.Strings.Repeat
namespace Go.Proofs.YtjmbklbobofciabDoor.scsi
open Go.RowKit Go.PlainAid Go.Proofs.YtjmbklbobofciabDoor.lane Go.Proofs.YtjmbklbobofciabDoor.pipe Go.Proofs.YtjmbklbobofciabDoor.strike
set_option linter.unusedVariables false
set_option linter.unusedSimpArgs false
set_option maxRecDepth 100000

/-- a text behind texts -/
theorem app_one {w : World} {B : Nat} {v : Value} {l : List ByteArray} (h : Txs w B v l) (F : Nat) (x : ByteArray) (hF : w.heap[F]? = some (.cells #[.string x] 9)) (hl : l.length ≤ 1000000) (hB : B ≤ w.heap.size) :
    ∃ v' w5, (Builtin.append_ #[22, 22] 22 #[v, .slice (some ⟨F, 0, none⟩) 1 1]).run Tryd.prog w = .ok v' w5 ∧ Txs w5 B v' (l ++ [x]) ∧ Below B w w5 := by
  obtain ⟨i5, hi, hz0, hz1, hz2⟩ := info_parts infoS
  have ho : ∀ u ∈ ([.string x] : List Value), u.oneCell' = true := by simp [Value.oneCell']
  obtain ⟨gg, capn, w5, hrun, hown5, hgrow5, hat5, hgl5⟩ := run_append_lies (P := Tryd.prog) w 22 22 B 9 i5 _ 1 16 Tryd.underlying22 hi hz0 hz1 hz2 rfl (by omega) v l.length (scells l) h ⟨F, 0, none⟩ 1 1 [.string x] rfl (World.news_of_block (cs := #[.string x]) (t := 9) (fr := (0, 0)) hF) ho (by omega) (by unfold maxLen; omega) (by omega) hB _ rfl
  refine ⟨_, w5, hrun, ?_, (Below.refl _ _).grown hgrow5 hB (own_block h)⟩
  unfold Txs
  rw [List.length_append, show scells (l ++ [x]) = scells l ++ [.string x] by simp [scells]]
  exact hown5
/-- sixteen zero bytes -/
def z16 : ByteArray := ⟨(Lib.repeatL (⟨#[0]⟩ : ByteArray).data.toList 16).toArray⟩
theorem z16_size : z16.size = 16 := rfl
theorem repeat_any (w : World) : Calls Tryd.prog 21 #[.string ⟨#[0]⟩, .int .i64 16] w fun e w' => e = .returned (.string z16) ∧ Below w.heap.size w w' :=
  Tryd.strings_Repeat ⟨#[0]⟩ 16 w (by omega) (by show 1 * 16 ≤ _; omega)
/-- what New has made so far -/
def Mk (w : World) (R Y B k : Nat) (wr : World) (v : Value) : Prop :=
  wr.heap[Y]? = some (dkO v 0) ∧ wr.heap[R]? = some (dkO (.slice none 0 0) 0) ∧ Txs wr B v (List.replicate k z16) ∧ Below w.heap.size w wr ∧ B ≤ wr.heap.size
theorem Mk.below {w u u' : World} {R Y B k : Nat} {v : Value} (h : Mk w R Y B k u v) (hb : Below u.heap.size u u') : Mk w R Y B k u' v :=
  ⟨keep h.1 hb, keep h.2.1 hb, h.2.2.1.below hb, bsq h.2.2.2.1 hb, Nat.le_trans h.2.2.2.2 hb.size⟩
theorem Mk.add {w u : World} {R Y B k : Nat} {v : Value} (h : Mk w R Y B k u v) (hw : w.heap.size ≤ Y) (hY : Y < B) (hR : R < B) (hne : R ≠ Y) (hk : k ≤ 1000) (F : Nat) (hF : u.heap[F]? = some (.cells #[.string z16] 9)) :
    ∃ v' w5, (Builtin.append_ #[22, 22] 22 #[v, .slice (some ⟨F, 0, none⟩) 1 1]).run Tryd.prog u = .ok v' w5 ∧ w5.heap[Y]? = some (dkO v 0) ∧ Mk w R Y B (k + 1) (w5.setCell ⟨Y, 0, none⟩ v') v' := by
  obtain ⟨v', w5, hr, ht, hb⟩ := app_one h.2.2.1 F z16 hF (by rw [List.length_replicate]; omega) h.2.2.2.2
  have hY5 : w5.heap[Y]? = some (dkO v 0) := (hb.block Y hY).trans h.1
  refine ⟨v', w5, hr, hY5, csetX 0 _ hY5 rfl, ?_, ?_, ?_, ?_⟩
  · rw [heap_setCell_other _ _ _ _ hne]; exact (hb.block R hR).trans h.2.1
  · rw [List.replicate_succ']; exact txs_setX ht hY _ _
  · exact (h.2.2.2.1.trans (hb.mono (by omega))).setCell hw _
  · have := Nat.le_trans h.2.2.2.2 hb.size; simpa using this
set_option maxHeartbeats 4000000 in
theorem new_bad (z : Int) (w : World) (h : ¬ (1 ≤ z ∧ z ≤ 64)) : Calls Tryd.prog 10 #[.int .i64 z] w fun e w' => e = .returned (.tuple #[dkV (.slice none 0 0) 0, .int .i64 1]) ∧ Below w.heap.size w w' := by
  obtain ⟨w1, hw1, hR1, hb1⟩ := dk_named w (.slice none 0 0) 0
  have HC : Hid (∀ u, Calls Tryd.prog 20 #[.int .i64 z] u fun e w' => e = .returned (.bool false) ∧ u = w') := fun u => by
    have := isCount_any z u
    rw [show (decide (1 ≤ z) && decide (z ≤ 64)) = false by rw [Bool.and_eq_false_iff, decide_eq_false_iff_not, decide_eq_false_iff_not]; omega] at this
    exact this
  obtain ⟨uf, huf, hXf, hBf, hkf, hsf⟩ := dk_put w1 w.heap.size _ _ (.slice none 0 0) 0 hR1
  obtain ⟨⟨hz, x0, x1⟩, f0, f1⟩ := boxD hR1
  obtain ⟨⟨zf, p0, p1⟩, _⟩ := boxD hXf
  have HE : Hid (Below w.heap.size w uf) := hBf _ _ (Nat.le_refl _) hb1
  clear hR1 hb1 hXf hBf hkf hsf h
  go_enter Tryd.func10, Tryd.ntmps10
  go_wp2_with fail
  refine (HC.out _).mono ?_
  rintro e u ⟨rfl, rfl⟩
  clear HC
  go_wp2_with fail
  try rw [huf]
  exact bodyPost_ret (v := .tuple #[dkV (.slice none 0 0) 0, .int .i64 1]) (by simp [results, Tryd.results10, go_sem, zf, p0, p1]) rfl ⟨rfl, HE.out⟩
set_option maxHeartbeats 4000000 in
theorem new_good (n : Nat) (w : World) (h1 : 1 ≤ n) (h2 : n ≤ 64) : Calls Tryd.prog 10 #[.int .i64 (n : Int)] w fun e w' => ∃ v, e = .returned (.tuple #[dkV v 0, .int .i64 0]) ∧ Txs w' w.heap.size v (List.replicate n z16) ∧ Below w.heap.size w w' := by
  obtain ⟨w1, hw1, hR1, hb1⟩ := dk_named w (.slice none 0 0) 0
  obtain ⟨w2, hw2, hY2, hb2⟩ := dk_named w1 (.slice none 0 0) 0
  have HC : Hid (∀ u, Calls Tryd.prog 20 #[.int .i64 (n : Int)] u fun e w' => e = .returned (.bool true) ∧ u = w') := fun u => by
    have := isCount_any (n : Int) u
    rw [show (decide (1 ≤ (n : Int)) && decide ((n : Int) ≤ 64)) = true by rw [Bool.and_eq_true, decide_eq_true_eq, decide_eq_true_eq]; omega] at this
    exact this
  have hz1 := (Array.getElem?_eq_some_iff.1 hR1).1
  have hz2 := (Array.getElem?_eq_some_iff.1 hY2).1
  have HZ : Hid (w.heap.size < w1.heap.size ∧ w1.heap.size < w2.heap.size) := ⟨hz1, hz2⟩
  obtain ⟨wf, hwf, hXf, hBf, hkf, hsf⟩ := dk_put w2 w1.heap.size _ _ (.slice none 0 0) 0 hY2
  have HM : Hid (Mk w w.heap.size w1.heap.size w2.heap.size 0 wf (.slice none 0 0)) := ⟨hXf, (hkf _ (by omega)).trans (keep hR1 hb2), Txs.nil _ _, hBf _ _ (by omega) (bsq hb1 hb2), by omega⟩
  obtain ⟨⟨_, x0, x1⟩, f0, f1⟩ := boxD hR1
  obtain ⟨⟨_, y0, y1⟩, g0, g1⟩ := boxD hY2
  clear hR1 hb1 hY2 hb2 hXf hBf hkf hsf
  go_enter Tryd.func10, Tryd.ntmps10
  go_wp2_with fail
  refine (HC.out _).mono ?_
  rintro e u ⟨rfl, rfl⟩
  clear HC
  go_wp2_with fail
  try rw [hwf]
  clear hwf hw2 y0 y1 g0 g1 x0 x1 f0 f1
  go_loopw [11] (fun i wr => ∃ k : Nat, k ≤ n ∧ i = .int .i64 (k : Int) ∧ ∃ v, Hid (Mk w w.heap.size w1.heap.size w2.heap.size k wr v)) (fun i _ => n - (intOf i).toNat)
  case atStart => exact ⟨0, Nat.zero_le _, rfl, _, HM.out⟩
  case round =>
    obtain ⟨k, hk, rfl, v, HR⟩ := hrel
    obtain ⟨va, vc, hv, _, _⟩ := HR.out.2.2.1.form
    rw [List.length_replicate] at hv
    subst hv
    clear HM
    by_cases hlt : ¬ k < n
    · obtain rfl : k = n := by omega
      obtain ⟨⟨zy, y0, y1⟩, g0, g1⟩ := boxD HR.out.1
      obtain ⟨⟨zr, x0, x1⟩, f0, f1⟩ := boxD HR.out.2.1
      obtain ⟨uf, huf, hXf, hBf, hkf, hsf⟩ := dk_put wr w.heap.size _ _ (.slice va k vc) 0 HR.out.2.1
      obtain ⟨⟨zf, p0, p1⟩, _⟩ := boxD hXf
      have HE : Hid (Txs uf w.heap.size (.slice va k vc) (List.replicate k z16) ∧ Below w.heap.size w uf) := by
        have h := HR.out
        have hz := HZ.out
        refine ⟨?_, hBf _ _ (Nat.le_refl _) h.2.2.2.1⟩
        rw [← huf]
        exact txs_mono (txs_setX (txs_setX h.2.2.1 (by omega) _ _) (by omega) _ _) (by omega)
      clear hXf hBf hkf hsf HR HZ
      go_wp2_with fail
      try rw [huf]
      exact bodyPost_ret (v := .tuple #[dkV (.slice va k vc) 0, .int .i64 0]) (by simp [results, Tryd.results10, go_sem, zf, p0, p1]) rfl ⟨_, rfl, HE.out⟩
    · have hlt : k < n := by omega
      have hlt2 : (k : Int) < (n : Int) := by omega
      have HREP : Hid (∀ u, Calls Tryd.prog 21 #[.string ⟨#[0]⟩, .int .i64 16] u fun e w' => e = .returned (.string z16) ∧ Below u.heap.size u w') := fun u => repeat_any u
      have hz := HZ.out
      go_upto_region 6 with (fail)
      refine wp_abs (fun a0 => a0.tmps.size = 21 ∧ (∀ h, a0.tmps[4]'h = .pointer (some ⟨w1.heap.size, 0, none⟩))) ⟨rfl, fun _ => rfl⟩ ?_
      rintro a0 ⟨hsz, s4⟩ ha0
      refine wp_region_held (S := fun W => True) (by kernel_rfl) ?_
      have hS0 : True := trivial
      refine h_take (i := 0) (.pointer (some ⟨w1.heap.size, 0, none⟩)) rfl (by kernel_rfl) (by kernel_rfl) (by kernel_rfl) (fun _ _ _ h => h) rfl hS0 (fun W hW => by simp [execOp, go_sem, Act.put, hsz, s4]) ?_
      obtain ⟨⟨zy, y0, y1⟩, g0, g1⟩ := boxD HR.out.1
      refine h_two 1 2 (by kernel_rfl) ?_ ?_
      · refine o_value (w' := wr.drew) (.slice va k vc) rfl rfl (by simp [execOp, go_sem, Act.put, hsz, s4, y0]) ⟨hS0, ?_⟩
        refine h_call (i := 2) 21 #[.string ⟨#[0]⟩, .int .i64 16] rfl (by kernel_rfl) rfl (by simp [execOp, go_sem, Act.put, hsz, s4]) ((HREP.out _).mono ?_)
        rintro e u ⟨rfl, hb⟩
        refine ⟨_, rfl, hS0, ?_⟩
        have hMu : Mk w w.heap.size w1.heap.size w2.heap.size k u (.slice va k vc) := (HR.out.below (Below.refl _ _).drew).below hb
        obtain ⟨w4, hw4⟩ : ∃ w4, u.alloc (.cells #[.string z16] 9) = w4 := ⟨_, rfl⟩
        have hM4 : Mk w w.heap.size w1.heap.size w2.heap.size k w4 (.slice va k vc) := by rw [← hw4]; exact hMu.below (balloc _ _)
        obtain ⟨v', w5, hrun, hY5, hM6⟩ := hM4.add (by omega) (by omega) (by omega) (by omega) (by omega) u.heap.size (by rw [← hw4]; exact (MapKept.heap_alloc u _).1)
        obtain ⟨w6, hw6⟩ : ∃ w6, w5.setCell ⟨w1.heap.size, 0, none⟩ v' = w6 := ⟨_, rfl⟩
        rw [hw6] at hM6
        obtain ⟨na, nc, rfl, _, _⟩ := hM6.2.2.1.form
        obtain ⟨⟨zm, m0, m1⟩, l0, l1⟩ := boxD hY5
        have HE : Hid (Mk w w.heap.size w1.heap.size w2.heap.size (k + 1) w6 (.slice na (List.replicate (k + 1) z16).length nc)) := hM6
        refine h_value (i := 3) (w' := w4) (.slice (some ⟨u.heap.size, 0, none⟩) 1 1) rfl (by kernel_rfl) rfl (by rw [← hw4]; simp [execOp, go_sem, Act.put, hsz, s4]) hS0 ?_
        refine h_value (i := 4) (w' := w5) _ rfl (by kernel_rfl) rfl (run_append_op (.tmp 14) (.tmp 16) 22 rfl (.slice va k vc) (.slice (some ⟨u.heap.size, 0, none⟩) 1 1) _ (by simp [go_sem, Act.put, hsz]) (by simp [go_sem, Act.put, hsz]) hrun) hS0 ?_
        refine h_take (i := 5) (.pointer (some ⟨w1.heap.size, 0, none⟩)) rfl (by kernel_rfl) (by kernel_rfl) (by kernel_rfl) (fun _ _ _ h => h) rfl hS0 (fun W hW => by simp [execOp, go_sem, Act.put, hsz, s4]) ?_
        refine h_skip (i := 6) (w' := w6) rfl (by kernel_rfl) rfl (by rw [← hw6]; simp [execOp, go_sem, Act.put, hsz, s4, zm, m0, m1, l0, l1]) hS0 ?_
        refine wpAnyH_done (by kernel_rfl) ?_ _
        subst ha0
        clear hsz s4 m0 m1 zm l0 l1 hw4 hw6 hrun hM4 hM6 hMu hb HR HREP hY5
        go_simp
        go_wp2_with fail
        go_roundw
        case rel => exact ⟨k + 1, by omega, by go_num, _, HE.out⟩
        case measure => simp [intOf]; omega
      · refine o_call 21 #[.string ⟨#[0]⟩, .int .i64 16] rfl rfl (by simp [execOp, go_sem, Act.put, hsz, s4]) ((HREP.out _).mono ?_)
        rintro e u ⟨rfl, hb⟩
        refine ⟨_, rfl, hS0, ?_⟩
        have hMu : Mk w w.heap.size w1.heap.size w2.heap.size k u (.slice va k vc) := (HR.out.below (Below.refl _ _).drew).below hb
        obtain ⟨⟨zu, i0, i1⟩, _⟩ := boxD hMu.1
        obtain ⟨w4, hw4⟩ : ∃ w4, u.alloc (.cells #[.string z16] 9) = w4 := ⟨_, rfl⟩
        have hM4 : Mk w w.heap.size w1.heap.size w2.heap.size k w4 (.slice va k vc) := by rw [← hw4]; exact hMu.below (balloc _ _)
        obtain ⟨v', w5, hrun, hY5, hM6⟩ := hM4.add (by omega) (by omega) (by omega) (by omega) (by omega) u.heap.size (by rw [← hw4]; exact (MapKept.heap_alloc u _).1)
        obtain ⟨w6, hw6⟩ : ∃ w6, w5.setCell ⟨w1.heap.size, 0, none⟩ v' = w6 := ⟨_, rfl⟩
        rw [hw6] at hM6
        obtain ⟨na, nc, rfl, _, _⟩ := hM6.2.2.1.form
        obtain ⟨⟨zm, m0, m1⟩, l0, l1⟩ := boxD hY5
        have HE : Hid (Mk w w.heap.size w1.heap.size w2.heap.size (k + 1) w6 (.slice na (List.replicate (k + 1) z16).length nc)) := hM6
        obtain ⟨⟨zv, j0, j1⟩, _⟩ := boxD hM4.1
        refine h_two 1 3 (by kernel_rfl) ?_ ?_
        · refine o_value (w' := u) (.slice va k vc) rfl rfl (by simp [execOp, go_sem, Act.put, hsz, s4, i0]) ⟨hS0, ?_⟩
          refine h_value (i := 3) (w' := w4) (.slice (some ⟨u.heap.size, 0, none⟩) 1 1) rfl (by kernel_rfl) rfl (by rw [← hw4]; simp [execOp, go_sem, Act.put, hsz, s4]) hS0 ?_
          refine h_value (i := 4) (w' := w5) _ rfl (by kernel_rfl) rfl (run_append_op (.tmp 14) (.tmp 16) 22 rfl (.slice va k vc) (.slice (some ⟨u.heap.size, 0, none⟩) 1 1) _ (by simp [go_sem, Act.put, hsz]) (by simp [go_sem, Act.put, hsz]) hrun) hS0 ?_
          refine h_take (i := 5) (.pointer (some ⟨w1.heap.size, 0, none⟩)) rfl (by kernel_rfl) (by kernel_rfl) (by kernel_rfl) (fun _ _ _ h => h) rfl hS0 (fun W hW => by simp [execOp, go_sem, Act.put, hsz, s4]) ?_
          refine h_skip (i := 6) (w' := w6) rfl (by kernel_rfl) rfl (by rw [← hw6]; simp [execOp, go_sem, Act.put, hsz, s4, zm, m0, m1, l0, l1]) hS0 ?_
          refine wpAnyH_done (by kernel_rfl) ?_ _
          subst ha0
          clear hsz s4 m0 m1 zm l0 l1 hw4 hw6 hrun hM4 hM6 hMu hb HR HREP hY5
          go_simp
          go_wp2_with fail
          go_roundw
          case rel => exact ⟨k + 1, by omega, by go_num, _, HE.out⟩
          case measure => simp [intOf]; omega
        · refine o_value (w' := w4) (.slice (some ⟨u.heap.size, 0, none⟩) 1 1) rfl rfl (by rw [← hw4]; simp [execOp, go_sem, Act.put, hsz, s4]) ⟨hS0, ?_⟩
          refine h_value (i := 1) (w' := w4) (.slice va k vc) rfl (by kernel_rfl) rfl (by simp [execOp, go_sem, Act.put, hsz, s4, j0]) hS0 ?_
          refine h_value (i := 4) (w' := w5) _ rfl (by kernel_rfl) rfl (run_append_op (.tmp 14) (.tmp 16) 22 rfl (.slice va k vc) (.slice (some ⟨u.heap.size, 0, none⟩) 1 1) _ (by simp [go_sem, Act.put, hsz]) (by simp [go_sem, Act.put, hsz]) hrun) hS0 ?_
          refine h_take (i := 5) (.pointer (some ⟨w1.heap.size, 0, none⟩)) rfl (by kernel_rfl) (by kernel_rfl) (by kernel_rfl) (fun _ _ _ h => h) rfl hS0 (fun W hW => by simp [execOp, go_sem, Act.put, hsz, s4]) ?_
          refine h_skip (i := 6) (w' := w6) rfl (by kernel_rfl) rfl (by rw [← hw6]; simp [execOp, go_sem, Act.put, hsz, s4, zm, m0, m1, l0, l1]) hS0 ?_
          refine wpAnyH_done (by kernel_rfl) ?_ _
          subst ha0
          clear hsz s4 m0 m1 zm l0 l1 hw4 hw6 hrun hM4 hM6 hMu hb HR HREP hY5
          go_simp
          go_wp2_with fail
          go_roundw
          case rel => exact ⟨k + 1, by omega, by go_num, _, HE.out⟩
          case measure => simp [intOf]; omega
theorem new_any (z : Int) (w : World) : Calls Tryd.prog 10 #[.int .i64 z] w fun e w' => ∃ v, e = .returned (.tuple #[dkV v 0, .int .i64 (if 1 ≤ z ∧ z ≤ 64 then 0 else 1)]) ∧ Txs w' w.heap.size v (if 1 ≤ z ∧ z ≤ 64 then List.replicate z.toNat z16 else []) ∧ Below w.heap.size w w' := by
  by_cases h : 1 ≤ z ∧ z ≤ 64
  · rw [if_pos h, if_pos h]
    obtain ⟨n, rfl⟩ : ∃ n : Nat, z = (n : Int) := ⟨z.toNat, by omega⟩
    rw [Int.toNat_natCast]
    exact new_good n w (by omega) (by omega)
  · rw [if_neg h, if_neg h]
    refine (new_bad z w h).mono ?_
    rintro e u ⟨rfl, hb⟩
    exact ⟨_, rfl, Txs.nil _ _, hb⟩
end Go.Proofs.YtjmbklbobofciabDoor.scsi
