/- plugref: what Pipe answers, where nothing is wrong. -/
import Derived.Test.YtgnffifohdgekaaPipT
import Derived.Test.YtgnffifohdgekaaPipN
namespace Go.Proofs.Ytgnffifohdgekaa.pipe
open Go.RowKit
set_option linter.unusedVariables false
set_option linter.unusedSimpArgs false
set_option maxRecDepth 100000

/-- the pipe once the other side has had the text -/
def midP (p : Pp) (f : Int) : Pp :=
  match p.L with
  | [] => p
  | x :: _ => if f = 1 ∨ f = 3 then arrP p x else p
theorem mid_no {p : Pp} {f : Int} (h : (decide (0 < p.L.length) && ((f == 1 || f == 3) && (p.s == p.q))) = false) : midP p f = p := by
  unfold midP
  cases hp : p.L with
  | nil => rfl
  | cons x r =>
    simp only
    by_cases hf : f = 1 ∨ f = 3
    · rw [if_pos hf]
      have : ¬ p.s = p.q := by
        intro q
        rw [hp, q] at h
        rcases hf with rfl | rfl <;> simp at h
      unfold arrP; rw [if_neg this]
    · rw [if_neg hf]
theorem mid_yes {p : Pp} {f : Int} (h : (decide (0 < p.L.length) && ((f == 1 || f == 3) && (p.s == p.q))) = true) : ∃ x r, p.L = x :: r ∧ p.s = p.q ∧ midP p f = ⟨p.s, 1 - p.q, p.L, p.G ++ [x]⟩ := by
  simp only [Bool.and_eq_true, Bool.or_eq_true, beq_iff_eq, decide_eq_true_eq] at h
  obtain ⟨h1, h2, h3⟩ := h
  unfold midP
  cases hp : p.L with
  | nil => rw [hp] at h1; simp at h1
  | cons x r =>
    refine ⟨x, r, rfl, h3, ?_⟩
    simp only
    rw [if_pos h2]
    unfold arrP
    rw [if_pos h3, hp]
theorem send_mid {p : Pp} {f : Int} (h : ¬ (0 < p.L.length ∧ f = 1)) : sendP p f = midP p f := by
  unfold sendP midP
  cases hp : p.L with
  | nil => rfl
  | cons x r =>
    simp only
    have hf : ¬ f = 1 := fun q => h ⟨by rw [hp]; simp, q⟩
    rw [if_neg hf]
    by_cases h3 : f = 3
    · rw [if_pos h3, if_pos (.inr h3)]
    · rw [if_neg h3, if_neg (by omega)]
theorem send_end {p : Pp} {f : Int} (h : 0 < p.L.length ∧ f = 1) : ∃ x r, p.L = x :: r ∧ (midP p f).L = x :: r ∧ (midP p f).s = p.s ∧ sendP p f = ⟨1 - p.s, (midP p f).q, r, (midP p f).G⟩ := by
  obtain ⟨h1, rfl⟩ := h
  cases hp : p.L with
  | nil => rw [hp] at h1; simp at h1
  | cons x r =>
    have hm : midP p 1 = arrP p x := by unfold midP; rw [hp]; simp
    rw [hm, arrP_L, arrP_s]
    exact ⟨x, r, rfl, hp, rfl, send_good hp⟩
set_option maxHeartbeats 8000000 in
theorem refPipe_ok (p : Pp) (la ga : Option Addr) (lc gc : Nat) (f : Int) (w : World) (h : argB p f = true) (hln : p.L.length ≤ 200) (hgn : p.G.length ≤ 200) (hL : Rts w (.slice la p.L.length lc) p.L) (hG : Rts w (.slice ga p.G.length gc) p.G) :
    Calls Try.prog 10 #[ppV p.s p.q (.slice la p.L.length lc) (.slice ga p.G.length gc), .int .i64 f] w (RAns w (sendP p f) 0) := by
  obtain ⟨w1, w2, hw1, hw2, hS⟩ := S0.made w p (.slice la p.L.length lc) (.slice ga p.G.length gc)
  obtain ⟨⟨hz, c0, c1, c2, c3⟩, f0, f1, f2, f3⟩ := box4 hS.box
  obtain ⟨h1, h2, h3⟩ := argB_parts h
  have HS : Hid (∀ u, Calls Try.prog 27 #[.int .i64 p.s, .int .i64 0, .int .i64 1] u fun e w' => e = .returned (.bool true) ∧ u = w') := fun u => by have := between_any p.s 0 1 u; rw [bit_between, h1] at this; exact this
  have HQ : Hid (∀ u, Calls Try.prog 27 #[.int .i64 p.q, .int .i64 0, .int .i64 1] u fun e w' => e = .returned (.bool true) ∧ u = w') := fun u => by have := between_any p.q 0 1 u; rw [bit_between, h2] at this; exact this
  have HF : Hid (∀ u, Calls Try.prog 28 #[.int .i64 f] u fun e w' => e = .returned (.bool true) ∧ u = w') := fun u => by have := refFate_any f u; rw [h3] at this; exact this
  have HCL : Hid (∀ u, Below w2.heap.size w2 u → Calls Try.prog 29 #[.slice la p.L.length lc] u fun e w' => ∃ v', e = .returned v' ∧ Txs w' u.heap.size v' p.L ∧ Below u.heap.size u w') := fun u hu => cloneT_any _ p.L u (hL.below (bsq hS.bel hu)) (by omega)
  have HCG : Hid (∀ u, Below w2.heap.size w2 u → Calls Try.prog 29 #[.slice ga p.G.length gc] u fun e w' => ∃ v', e = .returned v' ∧ Txs w' u.heap.size v' p.G ∧ Below u.heap.size u w') := fun u hu => cloneT_any _ p.G u (hG.below (bsq hS.bel hu)) (by omega)
  have HL0 : Hid (Rts w (.slice la p.L.length lc) p.L) := hL
  have HQ01 : Hid (p.q = 0 ∨ p.q = 1) := bit_cases h2
  have HS01 : Hid (p.s = 0 ∨ p.s = 1) := bit_cases h1
  obtain ⟨ln, hl⟩ : ∃ n, p.L.length = n := ⟨_, rfl⟩
  obtain ⟨gn, hg⟩ : ∃ n, p.G.length = n := ⟨_, rfl⟩
  have HLN : Hid (p.L.length = ln) := hl
  have HGN : Hid (p.G.length = gn) := hg
  rw [hl] at HCL HL0
  rw [hg] at HCG
  rw [hl, hg] at hS hw1 ⊢
  rw [hl] at c2 hln
  rw [hg] at c3 hgn
  have HGN2 : Hid (gn ≤ 200) := hgn
  have e1 : decide ((ln : Int) > 200) = false := by rw [decide_eq_false_iff_not]; omega
  have e2 : decide ((gn : Int) > 200) = false := by rw [decide_eq_false_iff_not]; omega
  have HS0 : Hid (S0 w p (.slice la ln lc) (.slice ga gn gc) w.heap.size w1.heap.size w2) := hS
  have HBX : Hid (∀ W, Below w2.heap.size w2 W → W.heap[w.heap.size]? = some (ppO p.s p.q (.slice la ln lc) (.slice ga gn gc))) := fun W hW => keep hS.box hW
  clear h h1 h2 h3 hln hgn hL hG hl hg hS
  go_enter Try.func10, Try.ntmps10
  go_wp2_with fail
  refine (HS.out _).mono ?_
  rintro e u ⟨rfl, rfl⟩
  go_wp2_with fail
  refine (HQ.out _).mono ?_
  rintro e u ⟨rfl, rfl⟩
  go_wp2_with fail
  refine (HF.out _).mono ?_
  rintro e u ⟨rfl, rfl⟩
  clear HS HQ HF
  go_upto_region 5 with (fail)
  go_cut [6] from 8 (fun ov wx => ∃ (Xo B : Nat) (oL oG : Value), ov = .pointer (some ⟨Xo, 0, none⟩) ∧ Bx w2.heap.size Xo B wx p oL oG ∧ Below w2.heap.size w2 wx ∧ w2.heap.size ≤ Xo ∧ w2.heap.size ≤ B)
  case first =>
    refine wp_abs (fun a0 => a0.tmps.size = 96 ∧ (∀ h, a0.tmps[2]'h = .pointer (some ⟨w.heap.size, 0, none⟩))) ⟨rfl, fun _ => rfl⟩ ?_
    rintro a0 ⟨hsz, s2⟩ ha0
    refine wp_region_held (S := fun W => Below w2.heap.size w2 W) (by kernel_rfl) ?_
    have hS0 : Below w2.heap.size w2 w2.drew := (Below.refl _ _).drew
    refine h_take (i := 0) (.pointer (some ⟨w.heap.size, 0, none⟩)) rfl (by kernel_rfl) (by kernel_rfl) (by kernel_rfl) (fun _ _ _ h => h) rfl hS0 (fun W hW => by simp [execOp, go_sem, Act.put, hsz, s2]) ?_
    refine h_take (i := 1) (.int .i64 p.s) rfl (by kernel_rfl) (by kernel_rfl) (by kernel_rfl) (fun _ _ _ h => h) rfl hS0 (fun W hW => by obtain ⟨⟨zb, x0, x1, x2, x3⟩, _⟩ := box4 (HBX.out W hW); simp [execOp, go_sem, Act.put, hsz, s2, x0, x1, x2, x3]) ?_
    refine h_take (i := 2) (.pointer (some ⟨w.heap.size, 1, none⟩)) rfl (by kernel_rfl) (by kernel_rfl) (by kernel_rfl) (fun _ _ _ h => h) rfl hS0 (fun W hW => by simp [execOp, go_sem, Act.put, hsz, s2]) ?_
    refine h_take (i := 3) (.int .i64 p.q) rfl (by kernel_rfl) (by kernel_rfl) (by kernel_rfl) (fun _ _ _ h => h) rfl hS0 (fun W hW => by obtain ⟨⟨zb, x0, x1, x2, x3⟩, _⟩ := box4 (HBX.out W hW); simp [execOp, go_sem, Act.put, hsz, s2, x0, x1, x2, x3]) ?_
    refine h_take (i := 4) (.pointer (some ⟨w.heap.size, 2, none⟩)) rfl (by kernel_rfl) (by kernel_rfl) (by kernel_rfl) (fun _ _ _ h => h) rfl hS0 (fun W hW => by simp [execOp, go_sem, Act.put, hsz, s2]) ?_
    refine h_take (i := 5) (.slice la ln lc) rfl (by kernel_rfl) (by kernel_rfl) (by kernel_rfl) (fun _ _ _ h => h) rfl hS0 (fun W hW => by obtain ⟨⟨zb, x0, x1, x2, x3⟩, _⟩ := box4 (HBX.out W hW); simp [execOp, go_sem, Act.put, hsz, s2, x0, x1, x2, x3]) ?_
    refine h_take (i := 7) (.pointer (some ⟨w.heap.size, 3, none⟩)) rfl (by kernel_rfl) (by kernel_rfl) (by kernel_rfl) (fun _ _ _ h => h) rfl hS0 (fun W hW => by simp [execOp, go_sem, Act.put, hsz, s2]) ?_
    refine h_take (i := 8) (.slice ga gn gc) rfl (by kernel_rfl) (by kernel_rfl) (by kernel_rfl) (fun _ _ _ h => h) rfl hS0 (fun W hW => by obtain ⟨⟨zb, x0, x1, x2, x3⟩, _⟩ := box4 (HBX.out W hW); simp [execOp, go_sem, Act.put, hsz, s2, x0, x1, x2, x3]) ?_
    refine h_two 6 11 (by kernel_rfl) ?_ ?_
    · refine o_call 29 #[.slice la ln lc] rfl rfl (by simp [execOp, go_sem, Act.put, hsz, s2]) ((HCL.out _ hS0).mono ?_)
      rintro e u1 ⟨oL, rfl, tL, hb1⟩
      obtain ⟨aL, kL, rfl, _, _⟩ := tL.form
      rw [HLN.out] at tL ⊢
      have hS1 : Below w2.heap.size w2 u1 := bsq hS0 hb1
      refine ⟨_, rfl, hS1, ?_⟩
      refine h_two 9 11 (by kernel_rfl) ?_ ?_
      · refine o_call 29 #[.slice ga gn gc] rfl rfl (by simp [execOp, go_sem, Act.put, hsz, s2]) ((HCG.out _ hS1).mono ?_)
        rintro e u2 ⟨oG, rfl, tG, hb2⟩
        obtain ⟨aG, kG, rfl, _, _⟩ := tG.form
        rw [HGN.out] at tG ⊢
        have hS2 : Below w2.heap.size w2 u2 := bsq hS1 hb2
        refine ⟨_, rfl, hS2, ?_⟩
        refine h_take (i := 10) (ppV p.s p.q (.slice aL ln kL) (.slice aG gn kG)) rfl (by kernel_rfl) (by kernel_rfl) (by kernel_rfl) (fun _ _ _ h => h) rfl hS2 (fun W hW => by simp [execOp, go_sem, Act.put, hsz, s2]) ?_
        refine h_value (i := 11) (w' := u2.alloc zO) (.pointer (some ⟨u2.heap.size, 0, none⟩)) rfl (by kernel_rfl) rfl (by simp [execOp, go_sem, Act.put, hsz, s2]) (bsq hS2 (balloc _ _)) ?_
        have hX := (MapKept.heap_alloc u2 zO).1
        have z1 : w2.heap.size ≤ u1.heap.size := hS1.size
        have z2 : u1.heap.size ≤ u2.heap.size := hb2.size
        have z3 : u2.heap.size ≤ (u2.alloc zO).heap.size := (balloc _ _).size
        obtain ⟨⟨zz, q0, q1, q2, q3⟩, f0, f1, f2, f3⟩ := box4 hX
        obtain ⟨uf, huf, hBx, hSf⟩ := Bx.made (p := p) (b0 := w2.heap.size) (Xo := u2.heap.size) (B := u1.heap.size) (bsq hS2 (balloc _ _)) hX (((tL.ow.mono (p' := fun g => w2.heap.size ≤ g ∧ g < u1.heap.size ∧ g ≠ u2.heap.size) fun g hg hlt => ⟨hg.2, hlt, by omega⟩).below hb2).below (balloc _ _)) (tG.below (balloc _ _)) (by omega) (by omega) (by omega)
        have hSf' : Below w2.heap.size w2 uf := hSf
        refine h_skip (i := 12) (w' := uf) rfl (by kernel_rfl) rfl (by rw [← huf]; simp [execOp, go_sem, Act.put, hsz, s2, zz, q0, q1, q2, q3, f0, f1, f2, f3]) hSf' ?_
        refine wpAnyH_done (by kernel_rfl) ?_ _
        clear huf q0 q1 q2 q3 f0 f1 f2 f3
        subst ha0
        clear hsz s2
        go_simp
        go_wp2_with fail
        go_meet
        case rel => exact ⟨_, _, _, _, rfl, hBx, hSf, by omega, by omega⟩
      · refine o_value (w' := u1.alloc zO) (.pointer (some ⟨u1.heap.size, 0, none⟩)) rfl rfl (by simp [execOp, go_sem, Act.put, hsz, s2]) ?_
        have hS3 : Below w2.heap.size w2 (u1.alloc zO) := bsq hS1 (balloc _ _)
        refine ⟨hS3, ?_⟩
        refine wpAnyH_all (rs := [9]) (by kernel_rfl) (by simp) (fun k hk => ?_)
        obtain rfl : k = 9 := by simpa using hk
        refine o_call 29 #[.slice ga gn gc] rfl rfl (by simp [execOp, go_sem, Act.put, hsz, s2]) ((HCG.out _ hS3).mono ?_)
        rintro e u2 ⟨oG, rfl, tG, hb2⟩
        obtain ⟨aG, kG, rfl, _, _⟩ := tG.form
        rw [HGN.out] at tG ⊢
        have hS2 : Below w2.heap.size w2 u2 := bsq hS3 hb2
        refine ⟨_, rfl, hS2, ?_⟩
        refine h_take (i := 10) (ppV p.s p.q (.slice aL ln kL) (.slice aG gn kG)) rfl (by kernel_rfl) (by kernel_rfl) (by kernel_rfl) (fun _ _ _ h => h) rfl hS2 (fun W hW => by simp [execOp, go_sem, Act.put, hsz, s2]) ?_
        have hX := keep (MapKept.heap_alloc u1 zO).1 hb2
        have z1 : w2.heap.size ≤ u1.heap.size := hS1.size
        have z2 : (u1.alloc zO).heap.size ≤ u2.heap.size := hb2.size
        have z3 : (u1.alloc zO).heap.size = u1.heap.size + 1 := by simp
        obtain ⟨⟨zz, q0, q1, q2, q3⟩, f0, f1, f2, f3⟩ := box4 hX
        obtain ⟨uf, huf, hBx, hSf⟩ := Bx.made (p := p) (b0 := w2.heap.size) (Xo := u1.heap.size) (B := (u1.alloc zO).heap.size) hS2 hX (((tL.ow.mono (p' := fun g => w2.heap.size ≤ g ∧ g < (u1.alloc zO).heap.size ∧ g ≠ u1.heap.size) fun g hg hlt => ⟨hg.2, by omega, by omega⟩).below (balloc _ _)).below hb2) tG (by omega) (by omega) (by omega)
        have hSf' : Below w2.heap.size w2 uf := hSf
        refine h_skip (i := 12) (w' := uf) rfl (by kernel_rfl) rfl (by rw [← huf]; simp [execOp, go_sem, Act.put, hsz, s2, zz, q0, q1, q2, q3, f0, f1, f2, f3]) hSf' ?_
        refine wpAnyH_done (by kernel_rfl) ?_ _
        clear huf q0 q1 q2 q3 f0 f1 f2 f3
        subst ha0
        clear hsz s2
        go_simp
        go_wp2_with fail
        go_meet
        case rel => exact ⟨_, _, _, _, rfl, hBx, hSf, by omega, by omega⟩
    · refine o_value (w' := w2.drew.alloc zO) (.pointer (some ⟨w2.heap.size, 0, none⟩)) rfl rfl (by simp [execOp, go_sem, Act.put, hsz, s2]) ?_
      have hS3 : Below w2.heap.size w2 (w2.drew.alloc zO) := bsq hS0 (balloc _ _)
      refine ⟨hS3, ?_⟩
      refine wpAnyH_all (rs := [6]) (by kernel_rfl) (by simp) (fun k hk => ?_)
      obtain rfl : k = 6 := by simpa using hk
      refine o_call 29 #[.slice la ln lc] rfl rfl (by simp [execOp, go_sem, Act.put, hsz, s2]) ((HCL.out _ hS3).mono ?_)
      rintro e u1 ⟨oL, rfl, tL, hb1⟩
      obtain ⟨aL, kL, rfl, _, _⟩ := tL.form
      rw [HLN.out] at tL ⊢
      have hS1 : Below w2.heap.size w2 u1 := bsq hS3 hb1
      have hX1 : u1.heap[w2.heap.size]? = some zO := keep (MapKept.heap_alloc w2.drew zO).1 hb1
      refine ⟨_, rfl, hS1, ?_⟩
      refine wpAnyH_all (rs := [9]) (by kernel_rfl) (by simp) (fun k hk => ?_)
      obtain rfl : k = 9 := by simpa using hk
      refine o_call 29 #[.slice ga gn gc] rfl rfl (by simp [execOp, go_sem, Act.put, hsz, s2]) ((HCG.out _ hS1).mono ?_)
      rintro e u2 ⟨oG, rfl, tG, hb2⟩
      obtain ⟨aG, kG, rfl, _, _⟩ := tG.form
      rw [HGN.out] at tG ⊢
      have hS2 : Below w2.heap.size w2 u2 := bsq hS1 hb2
      refine ⟨_, rfl, hS2, ?_⟩
      refine h_take (i := 10) (ppV p.s p.q (.slice aL ln kL) (.slice aG gn kG)) rfl (by kernel_rfl) (by kernel_rfl) (by kernel_rfl) (fun _ _ _ h => h) rfl hS2 (fun W hW => by simp [execOp, go_sem, Act.put, hsz, s2]) ?_
      have hX : u2.heap[w2.heap.size]? = some zO := keep hX1 hb2
      have z1 : (w2.drew.alloc zO).heap.size ≤ u1.heap.size := hb1.size
      have z2 : u1.heap.size ≤ u2.heap.size := hb2.size
      have z3 : (w2.drew.alloc zO).heap.size = w2.heap.size + 1 := by simp
      obtain ⟨⟨zz, q0, q1, q2, q3⟩, f0, f1, f2, f3⟩ := box4 hX
      obtain ⟨uf, huf, hBx, hSf⟩ := Bx.made (p := p) (b0 := w2.heap.size) (Xo := w2.heap.size) (B := u1.heap.size) hS2 hX ((tL.ow.mono (p' := fun g => w2.heap.size ≤ g ∧ g < u1.heap.size ∧ g ≠ w2.heap.size) fun g hg hlt => ⟨by have := hg.2; omega, hlt, by have := hg.2; omega⟩).below hb2) tG (by omega) (by omega) (by omega)
      have hSf' : Below w2.heap.size w2 uf := hSf
      refine h_skip (i := 12) (w' := uf) rfl (by kernel_rfl) rfl (by rw [← huf]; simp [execOp, go_sem, Act.put, hsz, s2, zz, q0, q1, q2, q3, f0, f1, f2, f3]) hSf' ?_
      refine wpAnyH_done (by kernel_rfl) ?_ _
      clear huf q0 q1 q2 q3 f0 f1 f2 f3
      subst ha0
      clear hsz s2
      go_simp
      go_wp2_with fail
      go_meet
      case rel => exact ⟨_, _, _, _, rfl, hBx, hSf, by omega, by omega⟩
  case rest =>
  obtain ⟨Xo, B, oL, oG, rfl, hBx, hb, hx0, hbb⟩ := hcut
  rename World => wx
  have hSx := HS0.out.below hb
  have HRo : Hid (S0 w p (.slice la ln lc) (.slice ga gn gc) w.heap.size w1.heap.size wx ∧ Bx w2.heap.size Xo B wx p oL oG) := ⟨hSx, hBx⟩
  have HZ : Hid (w.heap.size < w1.heap.size ∧ w1.heap.size < w2.heap.size ∧ w2.heap.size ≤ Xo ∧ w2.heap.size ≤ B) := ⟨hSx.hi, (Array.getElem?_eq_some_iff.1 HS0.out.res).1, hx0, hbb⟩
  obtain ⟨⟨z7, i0, i1, i2, i3⟩, _⟩ := box4 hSx.box
  clear hBx hb hx0 hbb hSx HS0 HCL HCG HBX hz c0 c1 c2 c3 f0 f1 f2 f3 e1 e2
  go_upto_region 6 with (fail)
  go_cut [7] from 8 (fun bv wy => bv = .bool (f == 1 || f == 3) ∧ wx = wy)
  case first =>
    cases k2 : (f == 1)
    · cases k3 : (f == 3)
      · go_wp2_with fail
        go_meet
        case rel => exact ⟨by rw [k2, k3]; rfl, rfl⟩
      · go_wp2_with fail
        go_meet
        case rel => exact ⟨by rw [k2, k3]; rfl, rfl⟩
    · go_wp2_with fail
      go_meet
      case rel => exact ⟨by rw [k2]; rfl, rfl⟩
  case rest =>
  obtain ⟨rfl, rfl⟩ := hcut
  obtain ⟨ar, har⟩ : ∃ b, (f == 1 || f == 3) = b := ⟨_, rfl⟩
  have HAR : Hid ((f == 1 || f == 3) = ar) := har
  rw [har]
  clear har
  go_upto_region 7 with (fail)
  go_cut [65] from 8 (fun bv wy => bv = .bool (decide (0 < ln) && (ar && (p.s == p.q))) ∧ wx = wy)
  case first =>
    by_cases kl : 0 < ln
    · have k1 : decide ((ln : Int) > 0) = true := by rw [decide_eq_true_eq]; omega
      cases ar
      · go_wp2_with fail
        go_meet
        case rel => exact ⟨by simp, rfl⟩
      · go_wp2_with fail
        go_meet
        case rel => exact ⟨by rw [decide_eq_true kl]; simp, rfl⟩
    · have k1 : decide ((ln : Int) > 0) = false := by rw [decide_eq_false_iff_not]; omega
      go_wp2_with fail
      go_meet
      case rel => exact ⟨by rw [decide_eq_false kl]; rfl, rfl⟩
  case rest =>
  obtain ⟨rfl, rfl⟩ := hcut
  obtain ⟨b7, hb7⟩ : ∃ b, (decide (0 < ln) && (ar && (p.s == p.q))) = b := ⟨_, rfl⟩
  have HB7 : Hid ((decide (0 < ln) && (ar && (p.s == p.q))) = b7) := hb7
  rw [hb7]
  clear hb7
  go_upto_if 65 with (fail)
  go_cut [6] from 8 (fun ov wy => ov = .pointer (some ⟨Xo, 0, none⟩) ∧ ∃ (oL' oG' : Value), Hid (S0 w p (.slice la ln lc) (.slice ga gn gc) w.heap.size w1.heap.size wy ∧ Bx w2.heap.size Xo B wy (midP p f) oL' oG'))
  case first =>
    cases b7
    · have hmid : midP p f = p := by
        have h7 := HB7.out
        rw [← HAR.out] at h7
        exact mid_no (by rw [HLN.out]; exact h7)
      have HE : Hid (S0 w p (.slice la ln lc) (.slice ga gn gc) w.heap.size w1.heap.size wx ∧ Bx w2.heap.size Xo B wx (midP p f) oL oG) := by rw [hmid]; exact HRo.out
      clear hmid
      go_wp2_with fail
      go_meet
      case rel => exact ⟨rfl, _, _, HE.out⟩
    · obtain ⟨x, r, hL, hsq, hmid⟩ := mid_yes (by have h7 := HB7.out; rw [← HAR.out] at h7; rw [HLN.out]; exact h7)
      have HMID : Hid (midP p f = ⟨p.s, 1 - p.q, p.L, p.G ++ [x]⟩) := hmid
      have hq01 : p.q = 0 ∨ p.q = 1 := HQ01.out
      have hwr : IntKind.i64.wrap (1 - p.q) = 1 - p.q := by rcases hq01 with q | q <;> rw [q] <;> rfl
      obtain ⟨i5, hi, hz0, hz1, hz2⟩ := info_parts infoS
      obtain ⟨lg, lo, hla, hwL, hcl⟩ : ∃ g off, la = some ⟨g, off, none⟩ ∧ g < w.heap.size ∧ wx.cell? ⟨g, off, none⟩ = some (.string x) := by
        obtain ⟨a', c', hv, _, _, hc⟩ := HL0.out
        have h0 : 0 < p.L.length := by rw [hL]; simp
        obtain ⟨g, off, ha, hg, hc⟩ := hc h0
        injection hv with e1 _ _
        exact ⟨g, off, e1.trans ha, hg, (HRo.out.1.bel.cell (p := ⟨g, off, none⟩) hg).trans (by simpa using hc 0 x (by rw [hL]; rfl))⟩
      subst hla
      have hln0 : 0 < ln := by have := HLN.out; rw [hL] at this; simp at this; omega
      obtain ⟨⟨z8, j0, j1, j2, j3⟩, n0, n1, n2, n3⟩ := box4 HRo.out.2.box
      obtain ⟨ob, oc, hoG, _, _⟩ := HRo.out.2.got.form
      subst hoG
      have hgn2 : gn ≤ 200 := HGN2.out
      rw [HGN.out] at HRo j3
      have ho : ∀ u ∈ ([.string x] : List Value), u.oneCell' = true := by simp [Value.oneCell']
      obtain ⟨oa, od, hoL, _⟩ := HRo.out.2.left
      subst hoL
      have HX8 : Hid (∀ W, Kp Xo B wx W → W.heap[w.heap.size]? = some (ppO p.s p.q (.slice (some ⟨lg, lo, none⟩) ln lc) (.slice ga gn gc))) := fun W hW => (hW.block _ (by have := HZ.out; omega) (by have := HZ.out; omega)).trans HRo.out.1.box
      have HC8 : Hid (∀ W, Kp Xo B wx W → W.cell? ⟨lg, lo, none⟩ = some (.string x)) := fun W hW => (World.cell?_of_block (w := wx) (a := ⟨lg, lo, none⟩) (hW.block lg (by have := HZ.out; omega) (by have := HZ.out; omega))).trans hcl
      have HFR : Hid (Kp Xo B wx wx.drew) := Kp.of (Below.refl _ _).drew
      clear hmid hq01 hL hsq z7 i0 i1 i2 i3 hwL
      go_upto_region 8 with (fail)
      refine wp_abs (fun a0 => a0.tmps.size = 96 ∧ (∀ h, a0.tmps[2]'h = .pointer (some ⟨w.heap.size, 0, none⟩)) ∧ (∀ h, a0.tmps[6]'h = .pointer (some ⟨Xo, 0, none⟩))) ⟨rfl, fun _ => rfl, fun _ => rfl⟩ ?_
      rintro a0 ⟨hsz, s2, s6⟩ ha0
      refine wp_region_held (S := fun W => Kp Xo B wx W) (by kernel_rfl) ?_
      have hS0 : Kp Xo B wx wx.drew := HFR.out
      refine h_take (i := 0) (.pointer (some ⟨Xo, 3, none⟩)) rfl (by kernel_rfl) (by kernel_rfl) (by kernel_rfl) (fun _ _ _ h => h) rfl hS0 (fun W hW => by simp [execOp, go_sem, Act.put, hsz, s2, s6]) ?_
      refine h_take (i := 2) (.pointer (some ⟨w.heap.size, 2, none⟩)) rfl (by kernel_rfl) (by kernel_rfl) (by kernel_rfl) (fun _ _ _ h => h) rfl hS0 (fun W hW => by simp [execOp, go_sem, Act.put, hsz, s2, s6]) ?_
      refine h_take (i := 3) (.slice (some ⟨lg, lo, none⟩) ln lc) rfl (by kernel_rfl) (by kernel_rfl) (by kernel_rfl) (fun _ _ _ h => h) rfl hS0 (fun W hW => by obtain ⟨⟨zb, x0, x1, x2, x3⟩, _⟩ := box4 (HX8.out W hW); simp [execOp, go_sem, Act.put, hsz, s2, s6, x0, x1, x2, x3]) ?_
      refine h_take (i := 4) (.pointer (some ⟨lg, lo, none⟩)) rfl (by kernel_rfl) (by kernel_rfl) (by kernel_rfl) (fun _ _ _ h => h) rfl hS0 (fun W hW => by simp [execOp, go_sem, Act.put, hsz, s2, s6, hln0]) ?_
      refine h_take (i := 5) (.string x) rfl (by kernel_rfl) (by kernel_rfl) (by kernel_rfl) (fun _ _ _ h => h) rfl hS0 (fun W hW => by have h5 := HC8.out W hW; simp [execOp, go_sem, Act.put, hsz, s2, s6, h5]) ?_
      refine h_take (i := 8) (.pointer (some ⟨w.heap.size, 1, none⟩)) rfl (by kernel_rfl) (by kernel_rfl) (by kernel_rfl) (fun _ _ _ h => h) rfl hS0 (fun W hW => by simp [execOp, go_sem, Act.put, hsz, s2, s6]) ?_
      refine h_take (i := 9) (.int .i64 p.q) rfl (by kernel_rfl) (by kernel_rfl) (by kernel_rfl) (fun _ _ _ h => h) rfl hS0 (fun W hW => by obtain ⟨⟨zb, x0, x1, x2, x3⟩, _⟩ := box4 (HX8.out W hW); simp [execOp, go_sem, Act.put, hsz, s2, s6, x0, x1, x2, x3]) ?_
      refine h_take (i := 10) (.int .i64 (1 - p.q)) rfl (by kernel_rfl) (by kernel_rfl) (by kernel_rfl) (fun _ _ _ h => h) rfl hS0 (fun W hW => by simp [execOp, go_sem, Act.put, hsz, s2, s6, hwr]) ?_
      obtain ⟨w4, hw4⟩ : ∃ w4, wx.drew.alloc (.cells #[.string x] 9) = w4 := ⟨_, rfl⟩
      have hb4 : Below wx.heap.size wx w4 := by rw [← hw4]; exact bsq (Below.refl _ _).drew (balloc _ _)
      have hS4 : Kp Xo B wx w4 := Kp.of (hb4.mono HRo.out.2.sz)
      have hB4 : Bx w2.heap.size Xo B w4 p (.slice oa p.L.length od) (.slice ob gn oc) := HRo.out.2.below hb4
      obtain ⟨gg, capn, w5, hrun, hown5, hgrow5, hat5, hgl5⟩ := run_append_lies (P := Try.prog) w4 22 22 B 9 i5 _ 1 16 Try.underlying22 hi hz0 hz1 hz2 rfl (by omega) (.slice ob gn oc) gn (scells p.G) (by have := hB4.got; unfold Txs at this; rw [HGN.out] at this; exact this) ⟨wx.heap.size, 0, none⟩ 1 1 [.string x] rfl (by rw [← hw4]; exact World.news_of_block (cs := #[.string x]) (t := 9) (fr := (0, 0)) (heap_alloc_new wx.drew _)) ho (by omega) (by unfold maxLen; omega) (by omega) hB4.sz _ rfl
      have t0 := hB4.grow (u := w5) (v' := .slice (some ⟨gg, 0, none⟩) (gn + 1) capn) (G' := p.G ++ [x]) (by unfold Txs; rw [List.length_append, HGN.out, show scells (p.G ++ [x]) = scells p.G ++ [.string x] by simp [scells]]; exact hown5) hgrow5
      have hS5 : Kp Xo B wx w5 := hS4.grown hgrow5 hB4.sz (own_block hB4.got)
      obtain ⟨⟨zm, m0, m1, m2, m3⟩, l0, l1, l2, l3⟩ := box4 t0.1
      have t6 := t0.2.1
      have hS6 := hS4.trans t0.2.2
      obtain ⟨w6, hw6⟩ : ∃ w6, w5.setCell ⟨Xo, 3, none⟩ (.slice (some ⟨gg, 0, none⟩) (gn + 1) capn) = w6 := ⟨_, rfl⟩
      rw [hw6] at t6 hS6
      obtain ⟨⟨zo, o0, o1, o2, o3⟩, v0, v1, v2, v3⟩ := box4 t6.box
      have t7 := t6.set1 (1 - p.q)
      have hS7 := hS6.setX 1 (.int .i64 (1 - p.q))
      have HE : Hid (S0 w p (.slice (some ⟨lg, lo, none⟩) ln lc) (.slice ga gn gc) w.heap.size w1.heap.size (w6.setCell ⟨Xo, 1, none⟩ (.int .i64 (1 - p.q))) ∧ Bx w2.heap.size Xo B (w6.setCell ⟨Xo, 1, none⟩ (.int .i64 (1 - p.q))) (midP p f) (.slice oa p.L.length od) (.slice (some ⟨gg, 0, none⟩) (gn + 1) capn)) := by
        refine ⟨?_, by rw [HMID.out]; exact t7⟩
        have hs := HRo.out.1
        have hz := HZ.out
        exact ⟨(hS7.block _ (by omega) (by omega)).trans hs.box, (hS7.block _ (by omega) (by omega)).trans hs.res, hs.lo, hs.hi, hs.bel.trans (hS7.below (by omega) (by omega))⟩
      refine h_two 1 6 (by kernel_rfl) ?_ ?_
      · refine o_value (w' := wx.drew) (.slice ob gn oc) rfl rfl (by simp [execOp, go_sem, Act.put, hsz, s2, s6, j0, j1, j2, j3]) ⟨hS0, ?_⟩
        refine h_value (i := 6) (w' := w4) (.slice (some ⟨wx.heap.size, 0, none⟩) 1 1) rfl (by kernel_rfl) rfl (by rw [← hw4]; simp [execOp, go_sem, Act.put, hsz, s2, s6]) hS4 ?_
        refine h_value (i := 7) (w' := w5) (.slice (some ⟨gg, 0, none⟩) (gn + 1) capn) rfl (by kernel_rfl) rfl (run_append_op (.tmp 67) (.tmp 72) 22 rfl (.slice ob gn oc) (.slice (some ⟨wx.heap.size, 0, none⟩) 1 1) _ (by simp [go_sem, Act.put, hsz]) (by simp [go_sem, Act.put, hsz]) hrun) hS5 ?_
        refine h_take (i := 11) (.pointer (some ⟨Xo, 3, none⟩)) rfl (by kernel_rfl) (by kernel_rfl) (by kernel_rfl) (fun _ _ _ h => h) rfl hS5 (fun W hW => by simp [execOp, go_sem, Act.put, hsz, s2, s6]) ?_
        refine h_skip (i := 12) (w' := w6) rfl (by kernel_rfl) rfl (by rw [← hw6]; simp [execOp, go_sem, Act.put, hsz, s2, s6, zm, m0, m1, m2, m3, l0, l1, l2, l3]) hS6 ?_
        refine h_take (i := 13) (.pointer (some ⟨Xo, 1, none⟩)) rfl (by kernel_rfl) (by kernel_rfl) (by kernel_rfl) (fun _ _ _ h => h) rfl hS6 (fun W hW => by simp [execOp, go_sem, Act.put, hsz, s2, s6]) ?_
        refine h_skip (i := 14) (w' := w6.setCell ⟨Xo, 1, none⟩ (.int .i64 (1 - p.q))) rfl (by kernel_rfl) rfl (by simp [execOp, go_sem, Act.put, hsz, s2, s6, zo, o0, o1, o2, o3, v0, v1, v2, v3]) hS7 ?_
        refine wpAnyH_done (by kernel_rfl) ?_ _
        subst ha0
        clear hsz s2 s6 hw4 hw6 m0 m1 m2 m3 l0 l1 l2 l3 o0 o1 o2 o3 v0 v1 v2 v3 hrun j0 j1 j2 j3 n0 n1 n2 n3
        go_simp
        go_wp2_with fail
        go_meet
        case rel => exact ⟨rfl, _, _, HE.out⟩
      · refine o_value (w' := w4) (.slice (some ⟨wx.heap.size, 0, none⟩) 1 1) rfl rfl (by rw [← hw4]; simp [execOp, go_sem, Act.put, hsz, s2, s6]) ⟨hS4, ?_⟩
        refine h_value (i := 1) (w' := w4) (.slice ob gn oc) rfl (by kernel_rfl) rfl (by obtain ⟨⟨_, k0, k1, k2, k3⟩, _⟩ := box4 hB4.box; simp [execOp, go_sem, Act.put, hsz, s2, s6, k0, k1, k2, k3]) hS4 ?_
        refine h_value (i := 7) (w' := w5) (.slice (some ⟨gg, 0, none⟩) (gn + 1) capn) rfl (by kernel_rfl) rfl (run_append_op (.tmp 67) (.tmp 72) 22 rfl (.slice ob gn oc) (.slice (some ⟨wx.heap.size, 0, none⟩) 1 1) _ (by simp [go_sem, Act.put, hsz]) (by simp [go_sem, Act.put, hsz]) hrun) hS5 ?_
        refine h_take (i := 11) (.pointer (some ⟨Xo, 3, none⟩)) rfl (by kernel_rfl) (by kernel_rfl) (by kernel_rfl) (fun _ _ _ h => h) rfl hS5 (fun W hW => by simp [execOp, go_sem, Act.put, hsz, s2, s6]) ?_
        refine h_skip (i := 12) (w' := w6) rfl (by kernel_rfl) rfl (by rw [← hw6]; simp [execOp, go_sem, Act.put, hsz, s2, s6, zm, m0, m1, m2, m3, l0, l1, l2, l3]) hS6 ?_
        refine h_take (i := 13) (.pointer (some ⟨Xo, 1, none⟩)) rfl (by kernel_rfl) (by kernel_rfl) (by kernel_rfl) (fun _ _ _ h => h) rfl hS6 (fun W hW => by simp [execOp, go_sem, Act.put, hsz, s2, s6]) ?_
        refine h_skip (i := 14) (w' := w6.setCell ⟨Xo, 1, none⟩ (.int .i64 (1 - p.q))) rfl (by kernel_rfl) rfl (by simp [execOp, go_sem, Act.put, hsz, s2, s6, zo, o0, o1, o2, o3, v0, v1, v2, v3]) hS7 ?_
        refine wpAnyH_done (by kernel_rfl) ?_ _
        subst ha0
        clear hsz s2 s6 hw4 hw6 m0 m1 m2 m3 l0 l1 l2 l3 o0 o1 o2 o3 v0 v1 v2 v3 hrun j0 j1 j2 j3 n0 n1 n2 n3
        go_simp
        go_wp2_with fail
        go_meet
        case rel => exact ⟨rfl, _, _, HE.out⟩
  case rest =>
  obtain ⟨rfl, oL1, oG1, HR1⟩ := hcut
  rename World => wm
  obtain ⟨⟨z7, i0, i1, i2, i3⟩, _⟩ := box4 HR1.out.1.box
  clear HRo HB7 HAR HL0
  go_upto_region 9 with (fail)
  go_cut [6, 86] from 8 (fun ov bv wy => ov = .pointer (some ⟨Xo, 0, none⟩) ∧ bv = .bool (decide (0 < ln) && (f == 1)) ∧ wm = wy)
  case first =>
    by_cases kl : 0 < ln
    · have k1 : decide ((ln : Int) > 0) = true := by rw [decide_eq_true_eq]; omega
      go_wp2_with fail
      go_meet
      case rel => exact ⟨rfl, by rw [decide_eq_true kl]; simp, rfl⟩
    · have k1 : decide ((ln : Int) > 0) = false := by rw [decide_eq_false_iff_not]; omega
      go_wp2_with fail
      go_meet
      case rel => exact ⟨rfl, by rw [decide_eq_false kl]; rfl, rfl⟩
  case rest =>
  obtain ⟨rfl, rfl, rfl⟩ := hcut
  obtain ⟨b9, hb9⟩ : ∃ b, (decide (0 < ln) && (f == 1)) = b := ⟨_, rfl⟩
  have HB9 : Hid ((decide (0 < ln) && (f == 1)) = b9) := hb9
  rw [hb9]
  clear hb9
  go_upto_if 86 with (fail)
  go_cut [6] from 8 (fun ov wy => ov = .pointer (some ⟨Xo, 0, none⟩) ∧ ∃ (oL' oG' : Value), Hid (S0 w p (.slice la ln lc) (.slice ga gn gc) w.heap.size w1.heap.size wy ∧ Bx w2.heap.size Xo B wy (sendP p f) oL' oG'))
  case first =>
    cases b9
    · have hmid : sendP p f = midP p f := send_mid (by have h9 := HB9.out; rw [HLN.out]; simp at h9; intro z; exact h9 z.1 z.2)
      have HE : Hid (S0 w p (.slice la ln lc) (.slice ga gn gc) w.heap.size w1.heap.size wm ∧ Bx w2.heap.size Xo B wm (sendP p f) oL1 oG1) := by rw [hmid]; exact HR1.out
      clear hmid
      go_wp2_with fail
      go_meet
      case rel => exact ⟨rfl, _, _, HE.out⟩
    · obtain ⟨x, r, hL, hmL, hms, hse⟩ := send_end (p := p) (f := f) (by have h9 := HB9.out; rw [HLN.out]; simpa using h9)
      have HSE : Hid (sendP p f = ⟨1 - p.s, (midP p f).q, r, (midP p f).G⟩) := hse
      have hs01 : p.s = 0 ∨ p.s = 1 := HS01.out
      have hwr : IntKind.i64.wrap (1 - p.s) = 1 - p.s := by rcases hs01 with q | q <;> rw [q] <;> rfl
      have hlf := HR1.out.2.left
      rw [hmL] at hlf
      obtain ⟨la1, lc1, hv⟩ : ∃ a c, oL1 = .slice a (x :: r).length c := by obtain ⟨a, c, h, _⟩ := hlf; exact ⟨a, c, h⟩
      subst hv
      obtain ⟨lg1, lo1, hla1, _, _, _, hp1, hg1, _, a1, hsl, how⟩ := hlf.rest
      subst hla1
      simp only [List.length_cons] at hsl HR1
      obtain ⟨⟨z8, j0, j1, j2, j3⟩, n0, n1, n2, n3⟩ := box4 HR1.out.2.box
      have HX8 : Hid (∀ W, Kp Xo B wm W → W.heap[w.heap.size]? = some (ppO p.s p.q (.slice la ln lc) (.slice ga gn gc))) := fun W hW => (hW.block _ (by have := HZ.out; omega) (by have := HZ.out; omega)).trans HR1.out.1.box
      have hb4 : Below wm.heap.size wm wm.drew := (Below.refl _ _).drew
      have hS0 : Kp Xo B wm wm.drew := Kp.of (hb4.mono HR1.out.2.sz)
      have hB4 := HR1.out.2.below hb4
      have hB5 := hB4.setL (how wm.drew rfl hg1)
      obtain ⟨w6, hw6⟩ : ∃ w6, wm.drew.setCell ⟨Xo, 2, none⟩ (.slice a1 r.length (lc1 - 1)) = w6 := ⟨_, rfl⟩
      have hS6 : Kp Xo B wm w6 := by rw [← hw6]; exact hS0.setX _ _
      rw [hw6] at hB5
      obtain ⟨⟨zo, o0, o1, o2, o3⟩, v0, v1, v2, v3⟩ := box4 hB5.box
      have t7 := hB5.set0 (1 - p.s)
      have hS7 := hS6.setX 0 (.int .i64 (1 - p.s))
      have HE : Hid (S0 w p (.slice la ln lc) (.slice ga gn gc) w.heap.size w1.heap.size (w6.setCell ⟨Xo, 0, none⟩ (.int .i64 (1 - p.s))) ∧ Bx w2.heap.size Xo B (w6.setCell ⟨Xo, 0, none⟩ (.int .i64 (1 - p.s))) (sendP p f) (.slice a1 r.length (lc1 - 1)) oG1) := by
        refine ⟨?_, by rw [HSE.out]; exact t7⟩
        have hs := HR1.out.1
        have hz := HZ.out
        exact ⟨(hS7.block _ (by omega) (by omega)).trans hs.box, (hS7.block _ (by omega) (by omega)).trans hs.res, hs.lo, hs.hi, hs.bel.trans (hS7.below (by omega) (by omega))⟩
      clear hs01 hL hmL hms hse hlf how hp1 hg1 z7 i0 i1 i2 i3 hB4 hB5 t7
      generalize lc1 - 1 = lc2 at *
      obtain ⟨rn, hrn⟩ : ∃ n, r.length = n := ⟨_, rfl⟩
      rw [hrn] at hsl HE hw6 j2 o2
      clear hrn
      go_upto_region 10 with (fail)
      refine wp_abs (fun a0 => a0.tmps.size = 96 ∧ (∀ h, a0.tmps[2]'h = .pointer (some ⟨w.heap.size, 0, none⟩)) ∧ (∀ h, a0.tmps[6]'h = .pointer (some ⟨Xo, 0, none⟩))) ⟨rfl, fun _ => rfl, fun _ => rfl⟩ ?_
      rintro a0 ⟨hsz, s2, s6⟩ ha0
      refine wp_region_held (S := fun W => Kp Xo B wm W) (by kernel_rfl) ?_
      refine h_take (i := 0) (.pointer (some ⟨Xo, 2, none⟩)) rfl (by kernel_rfl) (by kernel_rfl) (by kernel_rfl) (fun _ _ _ h => h) rfl hS0 (fun W hW => by simp [execOp, go_sem, Act.put, hsz, s2, s6]) ?_
      refine h_take (i := 3) (.pointer (some ⟨w.heap.size, 0, none⟩)) rfl (by kernel_rfl) (by kernel_rfl) (by kernel_rfl) (fun _ _ _ h => h) rfl hS0 (fun W hW => by simp [execOp, go_sem, Act.put, hsz, s2, s6]) ?_
      refine h_take (i := 4) (.int .i64 p.s) rfl (by kernel_rfl) (by kernel_rfl) (by kernel_rfl) (fun _ _ _ h => h) rfl hS0 (fun W hW => by obtain ⟨⟨zb, x0, x1, x2, x3⟩, _⟩ := box4 (HX8.out W hW); simp [execOp, go_sem, Act.put, hsz, s2, s6, x0, x1, x2, x3]) ?_
      refine h_take (i := 5) (.int .i64 (1 - p.s)) rfl (by kernel_rfl) (by kernel_rfl) (by kernel_rfl) (fun _ _ _ h => h) rfl hS0 (fun W hW => by simp [execOp, go_sem, Act.put, hsz, s2, s6, hwr]) ?_
      refine h_value (i := 1) (w' := wm.drew) (.slice (some ⟨lg1, lo1, none⟩) (rn + 1) lc1) rfl (by kernel_rfl) rfl (by simp [execOp, go_sem, Act.put, hsz, s2, s6, j0, j1, j2, j3]) hS0 ?_
      refine h_value (i := 2) (w' := wm.drew) (.slice a1 rn lc2) rfl (by kernel_rfl) rfl (by have h9 := sliceAt_of hsl; simp [execOp, go_sem, Act.put, hsz, s2, s6, h9]) hS0 ?_
      refine h_take (i := 6) (.pointer (some ⟨Xo, 2, none⟩)) rfl (by kernel_rfl) (by kernel_rfl) (by kernel_rfl) (fun _ _ _ h => h) rfl hS0 (fun W hW => by simp [execOp, go_sem, Act.put, hsz, s2, s6]) ?_
      refine h_skip (i := 7) (w' := w6) rfl (by kernel_rfl) rfl (by rw [← hw6]; simp [execOp, go_sem, Act.put, hsz, s2, s6, z8, j0, j1, j2, j3, n0, n1, n2, n3]) hS6 ?_
      refine h_take (i := 8) (.pointer (some ⟨Xo, 0, none⟩)) rfl (by kernel_rfl) (by kernel_rfl) (by kernel_rfl) (fun _ _ _ h => h) rfl hS6 (fun W hW => by simp [execOp, go_sem, Act.put, hsz, s2, s6]) ?_
      refine h_skip (i := 9) (w' := w6.setCell ⟨Xo, 0, none⟩ (.int .i64 (1 - p.s))) rfl (by kernel_rfl) rfl (by simp [execOp, go_sem, Act.put, hsz, s2, s6, zo, o0, o1, o2, o3, v0, v1, v2, v3]) hS7 ?_
      refine wpAnyH_done (by kernel_rfl) ?_ _
      subst ha0
      clear hsz s2 s6 hw6 o0 o1 o2 o3 v0 v1 v2 v3 hsl j0 j1 j2 j3 n0 n1 n2 n3
      go_simp
      go_wp2_with fail
      go_meet
      case rel => exact ⟨rfl, _, _, HE.out⟩
  case rest =>
  obtain ⟨rfl, oL2, oG2, HR2⟩ := hcut
  rename World => wz
  obtain ⟨hR4, hB4, uf, huf, hRf, hA⟩ := HR2.out.2.ans (Kp.refl _ _ _) HR2.out.1.bel HR2.out.1.res HZ.out.2.1 HZ.out.2.2.2 (by have := HZ.out; omega) (by have := HZ.out; omega) (by have := HZ.out; omega) 0
  obtain ⟨b1, d1, hv1, _⟩ := HR2.out.2.left
  obtain ⟨b2, d2, hv2, _⟩ := HR2.out.2.got.form
  subst hv1 hv2
  have HA : Hid (RAns w (sendP p f) 0 (.returned (.tuple #[ppV (sendP p f).s (sendP p f).q (.slice b1 (sendP p f).L.length d1) (.slice b2 (sendP p f).G.length d2), .int .i64 0])) uf) := hA.read
  clear hA HR2 HR1 HB9 z7 i0 i1 i2 i3
  go_upto_region 11 with (fail)
  refine wp_abs (fun a0 => a0.tmps.size = 96 ∧ (∀ h, a0.tmps[4]'h = .pointer (some ⟨w1.heap.size, 0, none⟩)) ∧ (∀ h, a0.tmps[6]'h = .pointer (some ⟨Xo, 0, none⟩)) ∧ a0.defers = []) ⟨rfl, fun _ => rfl, fun _ => rfl, rfl⟩ ?_
  rintro a0 ⟨hsz0, g4, g6, hdf⟩ ha0
  clear ha0
  refine ret_out hsz0 g4 g6 hdf hB4 hR4 huf hRf HA.out ?_
  intro a' wf h
  first | (rename_i hK; exact hK _ _ (wp_ret h)) | (rename_i hK hX; exact hK _ _ (wp_ret h))
theorem refPipe_any (p : Pp) (vL vG : Value) (f : Int) (w : World) (hL : Rts w vL p.L) (hG : Rts w vG p.G) :
    Calls Try.prog 10 #[ppV p.s p.q vL vG, .int .i64 f] w (RAns w (stP p f) (stC p f)) := by
  have hL' := hL
  have hG' := hG
  obtain ⟨la, lc, rfl, _, _, _⟩ := hL'
  obtain ⟨ga, gc, rfl, _, _, _⟩ := hG'
  by_cases h : argB p f = false
  · obtain ⟨e1, e2⟩ := stC_arg h
    rw [e1, e2]
    exact refPipe_arg p la ga _ lc _ gc f w h
  have h : argB p f = true := by simpa using h
  by_cases hl : 200 < p.L.length ∨ 200 < p.G.length
  · obtain ⟨e1, e2⟩ := stC_large h hl
    rw [e1, e2]
    exact refPipe_large p la ga _ lc _ gc f w h hl
  · obtain ⟨e1, e2⟩ := stC_ok h (by omega) (by omega)
    rw [e1, e2]
    exact refPipe_ok p la ga lc gc f w h (by omega) (by omega) hL hG
end Go.Proofs.Ytgnffifohdgekaa.pipe
